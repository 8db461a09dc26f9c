/- sorted: the dues in their order, in a list of their own. -/
import Derived.Test.YtaapdkjmlplhgaaSrt
import Derived.Test.YtaapdkjmlplhgaaSn
import Derived.Test.YtaapdkjmlplhgaaTk
set_option linter.unusedSimpArgs false
set_option linter.unusedVariables false
namespace Go.Proofs.Ytaapdkjmlplhgaa
open Go.RowKit Go.Sort Go.Shelf

theorem run_eqnil (ao : Option Addr) (l c : Nat) (w : World) : (binOp .eql 36 (.slice ao l c) (.slice none 0 0)).run Try.prog w = .ok (.bool ao.isNone) w := by
  simp [binOp, run_equal_slice_nil w 36 32 ao l c Try.underlying36]
theorem clone_none (w : World) : Calls Try.prog 43 #[.slice none 0 0] w fun e w' => e = .returned (.slice none 0 0) ∧ w' = w := by
  have EQ := run_eqnil none 0 0
  go_enter Try.func43, Try.ntmps43
  go_wp2
  go_ret
  exact ⟨rfl, rfl⟩
theorem rowat_cells {w : World} {g : Nat} {l : List Du} (h : RowAt w g l) : ∀ j u, (flat l)[j]? = some u → w.cell? ((⟨g, 0, none⟩ : Addr).add j) = some u := by
  intro j u hj
  obtain ⟨r, h⟩ := h
  have hl := (List.getElem?_eq_some_iff.1 hj).1
  rw [Addr.add_lit, Nat.zero_add, h.at, List.getElem?_append_left hl, hj]
set_option maxHeartbeats 1000000 in
theorem clone_any (g cp : Nat) (l : List Du) (w : World) (hl : l.length ≤ 5000) (h : RowAt w g l) :
    Calls Try.prog 43 #[.slice (some ⟨g, 0, none⟩) l.length cp] w fun e w' => ∃ N c, e = .returned (.slice (some ⟨N, 0, none⟩) l.length c) ∧ w.heap.size ≤ N ∧ RowAt w' N l ∧ Below w.heap.size w w' := by
  obtain ⟨i0, hi, hz0, hz1, hz2⟩ := info_parts d_info
  have EQ := run_eqnil (some ⟨g, 0, none⟩) l.length cp
  have ge := (Gr.refl w).alloc (.cells #[] 32)
  have hc := rowat_cells (h.gr ge)
  have k0 : RowG (w.alloc (.cells #[] 32)) w.heap.size 0 [] := ⟨[], Bk.new w 32 [], by simp, by unfold maxLen; omega⟩
  have own := k0.own (B := w.heap.size) (Nat.le_refl _)
  go_enter Try.func43, Try.ntmps43
  go_wp2_with (at_builtin; refine wpList_append_own _ rfl (.tmp 5) (.tmp 6) 36 rfl w.heap.size 32 i0 (.agg #[.int .u32 0, .int .u32 0, .int .u32 0]) 3 12 Try.underlying36 hi hz0 hz1 hz2 rfl (by decide) (.slice (some ⟨w.heap.size, 0, none⟩) 0 0) 0 [] rfl own ⟨g, 0, none⟩ l.length cp (flat l) rfl (flat_len l) hc (flat_cell l) (by unfold maxLen; omega) (by omega) (by simp) ?_)
  intro sv w1 hown hgrow hnil
  have hb : Below w.heap.size w w1 := ge.below.grown hgrow (by simp) (fun k hk => by cases hk; exact Nat.le_refl _)
  try rw [Nat.zero_add, List.nil_append] at hown
  rcases row_of_own hown with ⟨e, _⟩ | ⟨N, c, rfl, hN, R, _⟩
  · exfalso
    exact hnil e
  · have RA := hid0 R.at
    have HB := hid0 hb
    clear hc own hown hgrow hnil hb R k0 ge EQ
    go_wp2
    go_ret
    exact ⟨N, c, rfl, hN, RA.out, HB.out⟩
theorem nodup_of {l : List Du} {m : Pf} (P : PD l m) : l.Nodup := by
  unfold List.Nodup
  rw [List.pairwise_iff_getElem]
  intro i j hi hj hij e
  have a := P.tie i hi
  have b := P.tie j hj
  simp only [nth, List.getD, List.getElem?_eq_getElem hi, List.getElem?_eq_getElem hj, Option.getD_some] at a b
  rw [e, b] at a
  have := Option.some.inj a
  omega
/-- A list in the order of dues that holds just those of another one. -/
structure SortOf (L l : List Du) : Prop where
  asc : L.Pairwise (fun a b => ltD a b = true)
  mem : ∀ x, x ∈ L ↔ x ∈ l
theorem sorted_is {L l D : List Du} {m : Pf} (P : PD l m) (S : SortOf L l) (hp : D.Perm l) (hs : D.Pairwise (fun a b => ltD b a = false)) : D = L := by
  refine sorted_ext ?_ S.asc (fun x => (hp.mem_iff).trans (S.mem x).symm)
  have hn : D.Nodup := hp.nodup_iff.2 (nodup_of P)
  refine (List.Pairwise.and hs hn).imp ?_
  rintro a b ⟨h1, h2⟩
  cases h : ltD a b with
  | true => rfl
  | false => exact absurd (lt_anti h h1) h2
theorem SortOf.len {L l : List Du} {m : Pf} (P : PD l m) (S : SortOf L l) : L.length = l.length := by
  have hn : L.Nodup := S.asc.imp (fun {a b} h e => by subst e; rw [lt_irr] at h; cases h)
  exact (List.perm_ext_iff_of_nodup hn (nodup_of P)).2 S.mem |>.length_eq
set_option maxHeartbeats 1000000 in
theorem sorted_yes {B : Nat} {w : World} {d h pb mb : Nat} {v : Value} {l : List Du} {m : Pf} {most : Nat} (D : Ds B w d h pb mb v l m most) (L : List Du) (S : SortOf L l) :
    Calls Try.prog 35 #[.pointer (some ⟨d, 0, none⟩)] w (SortedR w L) := by
  have I := hid0 (absent_yes D)
  obtain ⟨c0, c1, c2, c3⟩ := D.cells
  have hmo := D.mo
  have hLl := S.len D.pd
  rcases D.shape with ⟨rfl, rfl⟩ | ⟨g, cp, rfl, hBg, R, hcp⟩
  · have hL : L = [] := List.eq_nil_of_length_eq_zero hLl
    subst hL
    clear D
    have CN := hid0 (clone_none w)
    have SN := hid0 (sortfunc_none (.func (.func 21) #[] #[]) w)
    go_enter Try.func35, Try.ntmps35
    go_wp2_with (go_at_call 31; refine I.out.mono ?_; rintro e w1 ⟨rfl, rfl⟩)
    refine CN.out.mono ?_
    rintro e w1 ⟨rfl, hw⟩
    cases hw
    go_wp2_with fail
    refine SN.out.mono ?_
    rintro e w1 ⟨rfl, hw⟩
    cases hw
    go_wp2
    go_ret
    exact ⟨(Gr.refl _).below, .inl ⟨rfl, rfl⟩⟩
  · have CL := hid0 (clone_any g cp l w (by omega) R.at)
    have P := hid0 D.pd
    clear D R
    go_enter Try.func35, Try.ntmps35
    go_wp2_with (go_at_call 31; refine I.out.mono ?_; rintro e w1 ⟨rfl, rfl⟩)
    refine CL.out.mono ?_
    rintro e w2 ⟨N, c, rfl, hN, RN, hb⟩
    have SF := hid0 (sortfunc_any N c l w2 (by omega) RN _ hN)
    replace hb := hid0 hb
    clear CL RN c0 c1 c2 c3 I
    go_wp2_with fail
    refine SF.out.mono ?_
    rintro e w3 ⟨rfl, D', hp, hs, RD, hb3⟩
    have eD := sorted_is P.out S hp hs
    subst eD
    have RD := hid0 RD
    have hb4 := hid0 (hb.out.trans hb3)
    clear SF hb hb3 hp hs
    go_wp2
    go_ret
    exact ⟨hb4.out, .inr ⟨N, c, by rw [hLl]; rfl, hN, RD.out⟩⟩
end Go.Proofs.Ytaapdkjmlplhgaa
