/- numbers of a set's All; sameInts; the document's own All; three. -/
import Derived.Test.YtjnjpjpgokdciaaDoorNu
set_option linter.unusedSimpArgs false
set_option linter.unusedVariables false
namespace Go.Proofs.YtjnjpjpgokdciaaDoor
open Go.RowKit Go.Sort Go.Shelf

abbrev OwnI (W : World) (B : Nat) (v : Value) (l : List Nat) : Prop := W.ownsRow B 3 1 v l.length (l.map idvN)
theorem numbers_any (b : Nat) (v : Value) (W0 : List Nat) (m : Int) (w : World) (hK : BKept w b v W0) (hT : Tab w) :
    Calls Tryd.prog 33 #[.func (.func 52) #[] #[pT b], .int .i64 m] w fun e w' => ∃ u, e = .returned u ∧ OwnI w' w.heap.size u (leftLN m (memR (bt W0) 0 (64 * W0.length))) ∧ Below w.heap.size w w' := by
  refine callsIn_wide.1 ((told_in 20 (by omega) 52 _ _ ?_ m (pK b v) w ?_ (enters_of Tryd.func52 (by kernel_rfl) rfl) (ball1_seq 19 (by omega) b v W0 w hK hT)).mono ?_)
  · have := memR_len (p := bt W0) (a := 0) (n := 64 * W0.length)
    have := hK.few
    omega
  · rintro k (rfl | h | rfl)
    · exact hK.cap.lt
    · exact hK.row.lt h
    · have := hK.cap.lt; omega
  · rintro e w' ⟨u, rfl, h3, h4⟩
    exact ⟨u, rfl, h3, h4⟩
/-- Whole numbers that a slice reads. -/
def Is (w : World) (ao : Option Addr) (l : List Nat) : Prop := ∀ (k x : Nat), l[k]? = some x → ∃ b off, ao = some ⟨b, off, none⟩ ∧ w.cell? ⟨b, off + k, none⟩ = some (.int .i64 (x : Int))
theorem Is.below {w w' : World} {ao : Option Addr} {l : List Nat} (h : Is w ao l) (g : Below w.heap.size w w') : Is w' ao l := fun k x hx => by
  obtain ⟨b, off, e, h0⟩ := h k x hx
  exact ⟨b, off, e, below_cell h0 g⟩
theorem OwnI.is {W : World} {B : Nat} {v : Value} {l : List Nat} (h : OwnI W B v l) : ∃ ao cap, v = .slice ao l.length cap ∧ Is W ao l := by
  rcases h.2 with ⟨rfl, hn⟩ | ⟨g, cap, cur, rfl, hg, hh, hle, hm, hs, ht⟩
  · have : l = [] := List.eq_nil_of_length_eq_zero hn
    subst this
    exact ⟨none, 0, rfl, fun k x hx => by simp at hx⟩
  · refine ⟨_, _, rfl, fun k x hx => ⟨g, 0, rfl, ?_⟩⟩
    have hc := h.cells (g := g) rfl k (idvN x) (by simp [hx])
    have e : (⟨g, 0, none⟩ : Addr).add k = ⟨g, 0 + k, none⟩ := by unfold Addr.add; split <;> simp_all
    rwa [e] at hc
theorem same_ints (a1 a2 : Option Addr) (c1 c2 : Nat) (l : List Nat) (w : World) (h1 : Is w a1 l) (h2 : Is w a2 l) (hl : l.length ≤ 1000000) :
    Calls Tryd.prog 34 #[.slice a1 l.length c1, .slice a2 l.length c2] w fun e w' => e = .returned (.bool true) ∧ Gr w w' := by
  have H1 := hid0 h1
  have H2 := hid0 h2
  clear h1 h2
  generalize hn : l.length = n at *
  have HN := hid0 hn
  have hnI : (n : Int) < 9223372036854775807 := by omega
  clear hn hl
  go_enter Tryd.func34, Tryd.ntmps34
  go_wp2
  go_loopg [5] n (fun kx s5 wr => ∃ i : Nat, s5 = .int .i64 (i : Int) ∧ i ≤ n ∧ kx = n - i ∧ Hid (Gr w wr))
  case atStart => exact ⟨0, rfl, Nat.zero_le _, rfl, Gr.refl _⟩
  case round =>
    obtain ⟨i, rfl, hi, rfl, G⟩ := hrel
    by_cases hlt : i < n
    · have hlt' : (i : Int) < (n : Int) := by omega
      obtain ⟨x, hx⟩ : ∃ x, l[i]? = some x := ⟨_, List.getElem?_eq_getElem (by rw [HN.out]; exact hlt)⟩
      obtain ⟨b1, o1, rfl, e1⟩ := H1.out i x hx
      obtain ⟨b2, o2, rfl, e2⟩ := H2.out i x hx
      have f1 := fun m => below_cell e1 ((G.out.drewN m).below)
      have f2 := fun m => below_cell e2 ((G.out.drewN m).below)
      have G2 := hid0 (fun m => G.out.drewN m)
      clear e1 e2 hx G
      go_upto_region 6 with fail
      go_quiet (fail)
      go_wp2
      go_roundg (n - (i + 1))
      case measure => omega
      case rel => exact ⟨i + 1, by simp, by omega, rfl, G2.out _⟩
    · have hge : ¬ (i : Int) < (n : Int) := by omega
      go_wp2
      go_ret
      exact ⟨rfl, G.out⟩
theorem memR_snoc (p : Nat → Bool) (n : Nat) : memR p 0 (n + 1) = memR p 0 n ++ (if p n then [n] else []) := by
  rw [memR_add]
  simp only [memR, Nat.zero_add]
set_option maxRecDepth 100000 in
theorem rall_any {w : World} {r q : Nat} {T : List Bool} (h : RBits w r q T) (hl : T.length ≤ 65536) : Calls Tryd.prog 23 #[pT r] w fun e w' => ∃ u, e = .returned u ∧ OwnI w' w.heap.size u (memT T) ∧ Below w.heap.size w w' := by
  obtain ⟨i0, hi0, hz0, hz1, hz2⟩ := info_parts Tryd.info3
  have H := hid0 h
  obtain ⟨C, hC⟩ : ∃ C, C = fun i => T.getD i false := ⟨_, rfl⟩
  have HC := hid0 hC
  have RC : Hid (memR C 0 T.length = memT T) := by rw [hC]; rfl
  clear hC h
  generalize hn : T.length = n at *
  have HN := hid0 hn
  have hnI : (n : Int) < 9223372036854775807 := by omega
  have HL := hid0 hl
  clear hn hl
  go_enter Tryd.func23, Tryd.ntmps23
  go_wp2
  go_loopg [3, 4] n (fun kx s3 s4 wr => ∃ (k : Nat) (M : List Nat), s4 = .int .i64 (k : Int) ∧ k ≤ n ∧ kx = n - k ∧ Hid (M = memR C 0 k) ∧ Hid (wr.ownsRow w.heap.size 3 1 s3 M.length (M.map idvN)) ∧ Hid (Below w.heap.size w wr))
  case atStart => exact ⟨0, [], rfl, Nat.zero_le _, rfl, rfl, World.ownsRow_nil _ _ _ _, (Gr.refl w).below⟩
  case round =>
    obtain ⟨k, M, rfl, hk, rfl, HM, OW, BE⟩ := hrel
    have hrb := BE.out.size
    have hrc : wr.cell? ⟨r, 0, none⟩ = some (.slice (some ⟨q, 0, none⟩) n n) := by
      have := below_cell H.out.c0 BE.out
      rwa [HN.out] at this
    by_cases hlt : k < n
    · have hlt' : (k : Int) < (n : Int) := by omega
      have ck := below_cell (H.out.at (k := k) (by rw [HN.out]; exact hlt)) BE.out
      have hst := memR_snoc C k
      have hml : M.length ≤ 65536 := by
        have h1 := memR_len (p := C) (a := 0) (n := k)
        rw [← HM.out] at h1
        have h2 := HL.out
        omega
      have eC : C k = T.getD k false := by rw [HC.out]
      rw [eC, ← HM.out] at hst
      cases hD : T.getD k false with
      | true =>
        rw [hD] at ck hst
        have HS : Hid (memR C 0 (k + 1) = M ++ [k]) := hst
        clear hst hD eC HM
        obtain ⟨ao, cap, rfl, -⟩ := OwnI.is OW.out
        generalize hMn : M.length = mn at *
        have HMN := hid0 hMn
        clear hMn
        go_wp2_with (at_builtin; refine wpList_append_own_at _ rfl (.tmp 21) (.tmp 23) 82 rfl w.heap.size 3 i0 (.int .i64 0) 1 8 Tryd.underlying82 hi0 hz0 hz1 hz2 rfl (by decide) _ _ _ rfl (OW.out.alloc _) ⟨wr.heap.size, 0, none⟩ 1 1 [.int .i64 (k : Int)] rfl rfl (by intro j u hj; match j, hj with | 0, hj => (simp at hj; subst hj; simp [Addr.add])) (fun u hu => by simp at hu; subst hu; rfl) (by unfold maxLen; omega) (by omega) (by simp; omega) ?_)
        intro sv' w1 hown' hgrow _ _
        have O2 : Hid (w1.ownsRow w.heap.size 3 1 sv' (M ++ [k]).length ((M ++ [k]).map idvN)) := by
          rw [List.length_append, HMN.out, List.map_append]
          exact hown'
        have B2 : Hid (Below w.heap.size w w1) := BE.out.trans (((Gr.refl wr).alloc _).below.mono hrb |>.trans ((Chg.grownR hgrow).below (by simp; omega) (fun j e => (OW.out.lt j e).1)))
        clear hown' hgrow OW BE ck hrc
        go_wp2
        go_roundg (n - (k + 1))
        case measure => omega
        case rel => exact ⟨k + 1, M ++ [k], by simp, by omega, rfl, HS.out.symm, O2, B2⟩
      | false =>
        rw [hD] at ck hst
        have HS : Hid (memR C 0 (k + 1) = M) := by rw [hst]; simp [Hid]
        clear hst hD eC HM
        go_wp2
        go_roundg (n - (k + 1))
        case measure => omega
        case rel => exact ⟨k + 1, M, by simp, by omega, rfl, HS.out.symm, OW, BE⟩
    · have hge : ¬ (k : Int) < (n : Int) := by omega
      obtain rfl : k = n := by omega
      have e : M = memT T := by rw [HM.out, RC.out]
      subst e
      clear HM
      obtain ⟨ao, cap, rfl, -⟩ := OwnI.is OW.out
      have OW2 := hid0 OW.out
      go_wp2
      go_ret
      exact ⟨_, rfl, OW.out, BE.out⟩
theorem three_any (n : Int) (h : in64 n) (w : World) : Calls Tryd.prog 24 #[.int .i64 n] w fun e w' => ∃ k : Nat, k < 3 ∧ e = .returned (.int .i64 (k : Int)) ∧ w' = w := by
  have h1 : n.tmod 3 < 3 := Int.tmod_lt_of_pos n (by omega)
  have h2 : -3 < n.tmod 3 := by
    have h3 := Int.tmod_lt_of_pos (-n) (show (0 : Int) < 3 by omega)
    rw [Int.neg_tmod] at h3
    omega
  obtain ⟨k, hk⟩ : ∃ k : Nat, (k : Int) = (n.tmod 3 + 3) % 3 := ⟨((n.tmod 3 + 3) % 3).toNat, by omega⟩
  have hk3 : k < 3 := by omega
  go_enter Tryd.func24, Tryd.ntmps24
  go_wp2
  go_ret
  exact ⟨k, hk3, congrArg (fun z => Ending.returned (.int .i64 z)) hk.symm, rfl⟩
end Go.Proofs.YtjnjpjpgokdciaaDoor
