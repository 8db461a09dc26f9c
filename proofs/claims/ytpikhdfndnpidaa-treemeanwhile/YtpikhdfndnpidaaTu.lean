/- A Tree's Del and Put. -/
import Derived.Test.YtpikhdfndnpidaaTs
import Derived.Maps.AppendAt
set_option linter.unusedSimpArgs false
set_option linter.unusedVariables false
namespace Go.Proofs.Ytpikhdfndnpidaa
open Go.RowKit Go.Sort

theorem At.ptr_eq (t : At) : ∃ o, t.ptr = .pointer o := by cases t using At.cas <;> exact ⟨_, rfl⟩
theorem Gr.ch {w w' : World} (h : Gr w w') (T : Nat) : w.grownBy w' (some T) := ⟨h.below.os, h.below.tape, h.below.output, h.below.size, fun k hk _ => h.below.block k hk⟩
theorem ch_set (w : World) (b i : Nat) (v : Value) : w.grownBy (w.setCell ⟨b, i, none⟩ v) (some b) :=
  ⟨rfl, rfl, rfl, by simp [World.setCell], fun k _ hk => Below.heap_setCell _ _ _ _ (fun e => hk (by simp [e]))⟩
theorem Bk.ne {w : World} {b c : Nat} {t u : TypeId} {l m : List Value} (h : Bk w b t l) (k : Bk w c u m) (n : t ≠ u) : b ≠ c := fun e => by
  subst e
  unfold Bk at h k
  rw [h] at k
  cases k
  exact n rfl
/-- Nodes are kept, whatever a Tree's block is turned to. -/
theorem Nk.set {w : World} {T i : Nat} {l : List Value} {u : TypeId} (k : Bk w T u l) (n : u ≠ 80) (v : Value) : Nk w (w.setCell ⟨T, i, none⟩ v) := fun b m h => h.other (a := ⟨T, i, none⟩) (h.ne k n.symm) v
def hasI (k : Int) (A : List E) : Bool := A.any (fun x => x.1 == k)
def delE (k : Int) (A : List E) : Int := if hasI k A then 0 else 141
def putE (i : Int) (q : Q4) (A : List E) : Int := if rgQ q = false then 142 else if hasI i A then 140 else if 65536 ≤ A.length then 5 else 0
def putL (i : Int) (q : Q4) (A : List E) : List E := if putE i q A = 0 then insL i q A else A
theorem hasI_iff {k : Int} {A : List E} : hasI k A = true ↔ ∃ q, (k, q) ∈ A := by
  simp only [hasI, List.any_eq_true, beq_iff_eq]
  constructor
  · rintro ⟨⟨a, q⟩, h, rfl⟩; exact ⟨q, h⟩
  · rintro ⟨q, h⟩; exact ⟨_, h, rfl⟩
theorem find_has {t : PT} (s : PT.Srt t.toL) (k : Int) : (t.find k).isNil = !hasI k t.toL := by
  cases h : (t.find k).isNil with
  | false =>
    obtain ⟨q, l, hh, _, m⟩ := PT.find_some s h
    rw [hasI_iff.2 ⟨q, m⟩]; rfl
  | true =>
    have := PT.find_none s h
    cases h2 : hasI k t.toL with
    | false => rfl
    | true => obtain ⟨q, m⟩ := hasI_iff.1 h2; exact absurd rfl (this _ m)
theorem rmv_len {k : Int} {A : List E} (s : PT.Srt A) (h : hasI k A = true) : (PT.rmv k A).length + 1 = A.length := by
  obtain ⟨q, m⟩ := hasI_iff.1 h
  clear h
  induction A with
  | nil => cases m
  | cons x A ih =>
    have s' := List.pairwise_cons.1 s
    rcases List.mem_cons.1 m with rfl | m
    · have e : PT.rmv k A = A := PT.rmv_none (fun y hy => by have := s'.1 y hy; simp only at this; omega)
      simp only [PT.rmv, List.filter_cons] at e ⊢
      rw [if_neg (by simp), e, List.length_cons]
    · have hx : x.1 ≠ k := by have := s'.1 _ m; simp only at this; omega
      have e := ih s'.2 m
      simp only [PT.rmv, List.filter_cons] at e ⊢
      rw [if_pos (by simpa using hx), List.length_cons, List.length_cons, e]
theorem srt_rmv {k : Int} {A : List E} (s : PT.Srt A) : PT.Srt (PT.rmv k A) := List.Pairwise.sublist List.filter_sublist s
set_option maxHeartbeats 1000000 in
theorem del_any (T : Nat) (t : At) (k : Int) (w : World) (h : TreeIs w T t) : Calls Try.prog 15 #[.pointer (some ⟨T, 0, none⟩), .int .u32 k] w fun e w' => ∃ t' : At, e = .returned (.int .i64 (delE k t.er.toL)) ∧ TreeIs w' T t' ∧ t'.er.toL = PT.rmv k t.er.toL ∧ w.grownBy w' (some T) := by
  have I := hid0 (isNone_yes T w h.made)
  have F := hid0 (find_any t k w h.tr)
  have c1 := h.root
  have H := hid0 h
  have hF := find_has h.srt k
  by_cases c : hasI k t.er.toL = true
  · have e0 : delE k t.er.toL = 0 := by simp [delE, c]
    rw [e0]
    rw [c, ← At.er_find, At.er_nil] at hF
    have WO := hid0 (without_any t h.ok (by have := h.few; omega) h.srt k w h.tr (hasI_iff.1 c))
    have N := hid0 (rmv_len h.srt c)
    have hw : wrap64 (((t.er.toL.length : Nat) : Int) - 1) = (((PT.rmv k t.er.toL).length : Nat) : Int) := by have := N.out; have := h.few; unfold wrap64; omega
    have few := h.few
    have FW : Hid ((PT.rmv k t.er.toL).length ≤ 65536) := by have := N.out; unfold Hid; omega
    have c2 := h.count
    have BLK := hid0 h.blk
    clear h few e0 N
    generalize ((t.er.toL.length : Nat) : Int) = LL at *
    generalize t.ptr = tp at *
    generalize t.find k = u at *
    cases u using At.cas with
    | nil => cases hF
    | nd b i q l hh =>
      clear hF
      dsimp only [At.ptr] at F
      go_enter Try.func15, Try.ntmps15
      go_wp2_with fail
      refine I.out.mono ?_
      rintro e v ⟨rfl, hv⟩
      cases hv
      clear I
      go_wp2_with fail
      refine F.out.mono ?_
      rintro e v ⟨rfl, hv⟩
      cases hv
      clear F
      go_wp2_with fail
      refine WO.out.mono ?_
      rintro e v ⟨t', rfl, X, Y, g⟩
      clear WO c1 c2
      have B2 := BLK.out.gr g
      have z0 := B2.at 0
      have z1 := B2.at 1
      have z2 := B2.at 2
      have f1 := B2.frozen 1
      have f2 := B2.frozen 2
      simp only [List.getElem?_cons_zero, List.getElem?_cons_succ] at z0 z1 z2
      obtain ⟨po, hp⟩ := t'.ptr_eq
      have HP := hid0 hp
      rw [hp]
      clear hp
      obtain ⟨tp', htp⟩ : ∃ v, v = Value.pointer po := ⟨_, rfl⟩
      have B3 := hid0 ((B2.set 1 tp').set 2 (.int .i64 (((PT.rmv k t.er.toL).length : Nat) : Int)))
      have C3 := hid0 (World.grownBy.trans (World.grownBy.trans (g.ch T) (ch_set v T 1 tp')) (ch_set _ T 2 (.int .i64 (((PT.rmv k t.er.toL).length : Nat) : Int))))
      have N3 := hid0 ((Nk.set (i := 1) B2 (by decide) tp').trans (Nk.set (i := 2) (B2.set 1 tp') (by decide) (.int .i64 (((PT.rmv k t.er.toL).length : Nat) : Int))))
      have G := hid0 g
      clear g B2 BLK
      subst htp
      go_wp2
      go_ret
      have hL : t'.er.toL = PT.rmv k t.er.toL := by rw [Y.out]; exact PT.toL_del _ H.out.srt k
      refine ⟨t', rfl, ⟨?_, X.out.nk N3.out, by rw [hL]; exact srt_rmv H.out.srt, by rw [Y.out]; exact (PT.bal_del _ H.out.bal k).1, fun x hx => H.out.rg x (by rw [hL] at hx; exact (List.mem_filter.1 hx).1), by rw [hL]; exact FW.out⟩, hL, C3.out⟩
      rw [hL, HP.out]
      exact B3.out
  · have cf : hasI k t.er.toL = false := by simpa using c
    have e0 : delE k t.er.toL = 141 := by simp [delE, cf]
    rw [e0]
    rw [cf, ← At.er_find, At.er_nil] at hF
    have R : Hid (PT.rmv k t.er.toL = t.er.toL) := PT.rmv_none (fun x hx e => by have := hasI_iff.2 ⟨x.2, (show (k, x.2) ∈ t.er.toL by rw [← e]; exact hx)⟩; rw [cf] at this; cases this)
    clear h e0 c
    generalize t.ptr = tp at *
    generalize t.find k = u at *
    cases u using At.cas with
    | nd => cases hF
    | nil =>
      clear hF
      dsimp only [At.ptr] at F
      go_enter Try.func15, Try.ntmps15
      go_wp2_with (first
        | (go_at_call 25; refine I.out.mono ?_; rintro e w1 ⟨rfl, hw⟩; cases hw)
        | (go_at_call 32; refine F.out.mono ?_; rintro e w1 ⟨rfl, hw⟩; cases hw))
      go_ret
      exact ⟨t, rfl, H.out, R.out.symm, (Gr.refl w).ch T⟩
end Go.Proofs.Ytpikhdfndnpidaa
