/- Contracts of the reference's sum, difference and negation of numbers of any size. -/
import Derived.Test.YtljdnahomhbenaaLess
namespace Go.Proofs.Ytljdnahomhbenaa
section
open Go.RowKit Go.Sort

theorem res4 {W w1 : World} {b : Nat} {x y : Value} (h : Bk W b x y) (g : Below W.heap.size W w1) :
    w1.cell? ⟨b, 0, none⟩ = some x ∧ w1.cell? ⟨b, 1, none⟩ = some y ∧ w1.frozen? ⟨b, 0, none⟩ = false ∧ w1.frozen? ⟨b, 1, none⟩ = false :=
  have h' := h.mono g h.lt
  ⟨h'.c0, h'.c1, h'.f0, h'.f1⟩

set_option maxHeartbeats 1000000 in
theorem neg_core (s : Bool) (ao : Option Addr) (cap : Nat) (l : List Int) (w : World) (h : Rd w ao cap l) :
    Calls Try.prog 108 #[.agg #[.bool s, .slice ao l.length cap]] w fun e w' => e = .returned (.agg #[.bool (!s && ((trim l).length != 0)), .slice ao (trim l).length cap]) ∧ Rd w' ao cap (trim l) ∧ Below w.heap.size w w' := by
  go_enter Try.func108, Try.ntmps108
  go_wp2_with fail
  have b2 := below2 w (.cells #[.bool !s, .slice ao l.length cap] 53) (.cells #[.bool false, .slice none 0 0] 53)
  have hR := h.mono b2
  have hk : Bk ((w.alloc (.cells #[.bool !s, .slice ao l.length cap] 53)).alloc (.cells #[.bool false, .slice none 0 0] 53)) (w.heap.size + 1) (.bool false) (.slice none 0 0) := by simpa using Bk.new (w.alloc (.cells #[.bool !s, .slice ao l.length cap] 53)) (.bool false) (.slice none 0 0)
  refine (trim_num _ _ _ _ _ hR).mono ?_
  rintro e w1 ⟨rfl, hg⟩
  obtain ⟨q0, q1, q2, q3⟩ := res4 hk hg.below
  have hbl : Below w.heap.size w w1 := b2.trans (hg.below.mono (by simp only [World.size_alloc]; omega))
  clear hg hk b2 hR
  go_wp2
  refine bodyPost_ret (v := .agg #[.bool (!s && ((trim l).length != 0)), .slice ao (trim l).length cap]) (by simp [results, Try.results108, go_sem, q0, q1]) rfl ?_
  have hf := (hbl.setCell (p := ⟨w.heap.size + 1, 0, none⟩) (by simp only []; omega) (.bool (!s && ((trim l).length != 0)))).setCell (p := ⟨w.heap.size + 1, 1, none⟩) (by simp only []; omega) (.slice ao (trim l).length cap)
  exact ⟨rfl, (h.mono hf).trim, hf⟩

set_option maxHeartbeats 1000000 in
theorem add_same (s t : Bool) (ao bo : Option Addr) (ca cb : Nat) (a b : List Int) (w : World) (ha : Rd w ao ca a) (hb : Rd w bo cb b) (hst : (s == t) = true) (h1 : a.length ≤ 500000) (h2 : b.length ≤ 500000) :
    Calls Try.prog 101 #[.agg #[.bool s, .slice ao a.length ca], .agg #[.bool t, .slice bo b.length cb]] w fun e w' => ∃ ao cap l, e = .returned (.agg #[.bool (s && (l.length != 0)), .slice ao l.length cap]) ∧ Rd w' ao cap l ∧ nrm l ∧ vals l = vals a + vals b ∧ Below w.heap.size w w' := by

  have b3 := below3 w (.cells #[.bool s, .slice ao a.length ca] 53) (.cells #[.bool t, .slice bo b.length cb] 53) (.cells #[.bool false, .slice none 0 0] 53)
  have hR := ha.mono b3
  have hS := hb.mono b3
  have k0 : Bk (((w.alloc (.cells #[.bool s, .slice ao a.length ca] 53)).alloc (.cells #[.bool t, .slice bo b.length cb] 53)).alloc (.cells #[.bool false, .slice none 0 0] 53)) w.heap.size (.bool s) (.slice ao a.length ca) := ((Bk.new w _ _).alloc _).alloc _
  have k1 : Bk (((w.alloc (.cells #[.bool s, .slice ao a.length ca] 53)).alloc (.cells #[.bool t, .slice bo b.length cb] 53)).alloc (.cells #[.bool false, .slice none 0 0] 53)) (w.heap.size + 1) (.bool t) (.slice bo b.length cb) := by simpa using (Bk.new (w.alloc (.cells #[.bool s, .slice ao a.length ca] 53)) (.bool t) (.slice bo b.length cb)).alloc (.cells #[.bool false, .slice none 0 0] 53)
  have k2 : Bk (((w.alloc (.cells #[.bool s, .slice ao a.length ca] 53)).alloc (.cells #[.bool t, .slice bo b.length cb] 53)).alloc (.cells #[.bool false, .slice none 0 0] 53)) (w.heap.size + 1 + 1) (.bool false) (.slice none 0 0) := by simpa using Bk.new ((w.alloc (.cells #[.bool s, .slice ao a.length ca] 53)).alloc (.cells #[.bool t, .slice bo b.length cb] 53)) (.bool false) (.slice none 0 0)
  go_enter Try.func101, Try.ntmps101
  go_wp2_with fail
  generalize ((w.alloc (.cells #[.bool s, .slice ao a.length ca] 53)).alloc (.cells #[.bool t, .slice bo b.length cb] 53)).alloc (.cells #[.bool false, .slice none 0 0] 53) = W3 at *
  refine (size_any _ _ _ _ _ _ _ _ _ hR hS h1 h2).mono ?_
  rintro e w1 ⟨xo, cx, x, rfl, hX, hnx, hvx, hb1⟩
  have hnn := hvx
  replace k0 := k0.mono hb1 k0.lt
  replace k1 := k1.mono hb1 k1.lt
  replace k2 := k2.mono hb1 k2.lt
  replace b3 := b3.trans (hb1.mono b3.size)
  clear hR hS hb1 hnn
  have c0 := k0.c0
  have c1 := k0.c1
  have c2 := k1.c0
  have c3 := k1.c1
  have l0 := k0.lt
  have l1 := k1.lt
  have HV : Hid (vals x = vals a + vals b) := hvx
  clear hvx
  go_wp2_with fail
  have hX1 : Rd (w1.alloc (.cells #[.bool s, .slice xo x.length cx] 53)) xo cx x := hX.mono (((Gr.refl _).alloc _).below)
  refine (trim_num _ _ _ _ _ hX1).mono ?_
  rintro e w2 ⟨rfl, hg⟩
  have hT := hX1.trim.mono hg.below
  have HT : Hid (vals (trim x) = vals a + vals b) := (trim_vals x).trans HV.out
  have hnT := trim_nrm x
  have k3 := (k2.alloc (.cells #[.bool s, .slice xo x.length cx] 53)).mono hg.below (by simp only [World.size_alloc]; have := k2.lt; omega)
  have hbl : Below w.heap.size w w2 := b3.trans ((((Gr.refl _).alloc _).trans hg).below.mono b3.size)
  clear hX hX1 hg k0 k1 k2 b3 c0 c1 c2 c3
  have q0 := k3.c0
  have q1 := k3.c1
  have q2 := k3.f0
  have q3 := k3.f1
  generalize trim x = L at *
  go_wp2
  refine bodyPost_ret (v := .agg #[.bool (s && (L.length != 0)), .slice xo L.length cx]) (by simp [results, Try.results101, go_sem, q0, q1]) rfl ⟨xo, cx, L, rfl, ?_, hnT, HT.out, ?_⟩
  · exact (hT.setBk k3 _).setBk (k3.set0 _) _
  · exact (hbl.setCell (by simp only []; omega) _).setCell (by simp only []; omega) _
set_option maxHeartbeats 1000000 in
theorem add_ge (s t : Bool) (ao bo : Option Addr) (ca cb : Nat) (a b : List Int) (w : World) (ha : Rd w ao ca a) (hb : Rd w bo cb b) (hst : (s == t) = false) (hnb : nrm b) (hba : vals b ≤ vals a) :
    Calls Try.prog 101 #[.agg #[.bool s, .slice ao a.length ca], .agg #[.bool t, .slice bo b.length cb]] w fun e w' => ∃ ao cap l, e = .returned (.agg #[.bool (s && (l.length != 0)), .slice ao l.length cap]) ∧ Rd w' ao cap l ∧ nrm l ∧ vals l = vals a - vals b ∧ Below w.heap.size w w' := by

  have hc : 0 ≤ cmpI (vals a) (vals b) := by unfold cmpI; split <;> (try split) <;> omega
  have b3 := below3 w (.cells #[.bool s, .slice ao a.length ca] 53) (.cells #[.bool t, .slice bo b.length cb] 53) (.cells #[.bool false, .slice none 0 0] 53)
  have hR := ha.mono b3
  have hS := hb.mono b3
  have k0 : Bk (((w.alloc (.cells #[.bool s, .slice ao a.length ca] 53)).alloc (.cells #[.bool t, .slice bo b.length cb] 53)).alloc (.cells #[.bool false, .slice none 0 0] 53)) w.heap.size (.bool s) (.slice ao a.length ca) := ((Bk.new w _ _).alloc _).alloc _
  have k1 : Bk (((w.alloc (.cells #[.bool s, .slice ao a.length ca] 53)).alloc (.cells #[.bool t, .slice bo b.length cb] 53)).alloc (.cells #[.bool false, .slice none 0 0] 53)) (w.heap.size + 1) (.bool t) (.slice bo b.length cb) := by simpa using (Bk.new (w.alloc (.cells #[.bool s, .slice ao a.length ca] 53)) (.bool t) (.slice bo b.length cb)).alloc (.cells #[.bool false, .slice none 0 0] 53)
  have k2 : Bk (((w.alloc (.cells #[.bool s, .slice ao a.length ca] 53)).alloc (.cells #[.bool t, .slice bo b.length cb] 53)).alloc (.cells #[.bool false, .slice none 0 0] 53)) (w.heap.size + 1 + 1) (.bool false) (.slice none 0 0) := by simpa using Bk.new ((w.alloc (.cells #[.bool s, .slice ao a.length ca] 53)).alloc (.cells #[.bool t, .slice bo b.length cb] 53)) (.bool false) (.slice none 0 0)
  go_enter Try.func101, Try.ntmps101
  go_wp2_with fail
  generalize ((w.alloc (.cells #[.bool s, .slice ao a.length ca] 53)).alloc (.cells #[.bool t, .slice bo b.length cb] 53)).alloc (.cells #[.bool false, .slice none 0 0] 53) = W3 at *
  refine (cmps_any _ _ _ _ _ _ _ _ _ hR hS).mono ?_
  rintro e w0 ⟨rfl, hg0⟩
  replace k0 := k0.mono hg0.below k0.lt
  replace k1 := k1.mono hg0.below k1.lt
  replace k2 := k2.mono hg0.below k2.lt
  replace b3 := b3.trans (hg0.below.mono b3.size)
  replace hR := hR.mono hg0.below
  replace hS := hS.mono hg0.below
  clear hg0
  have c0 := k0.c0
  have c1 := k0.c1
  have c2 := k1.c0
  have c3 := k1.c1
  go_wp2_with fail
  clear c0 c1 c2 c3
  refine (less_any _ _ _ _ _ _ _ _ _ hR hS hnb hba).mono ?_
  rintro e w1 ⟨xo, cx, x, rfl, hX, hnx, hvx, hb1⟩
  have hnn := hvx
  replace k0 := k0.mono hb1 k0.lt
  replace k1 := k1.mono hb1 k1.lt
  replace k2 := k2.mono hb1 k2.lt
  replace b3 := b3.trans (hb1.mono b3.size)
  clear hR hS hb1 hnn
  have c0 := k0.c0
  have c1 := k0.c1
  have c2 := k1.c0
  have c3 := k1.c1
  have l0 := k0.lt
  have l1 := k1.lt
  have HV : Hid (vals x = vals a - vals b) := hvx
  clear hvx
  go_wp2_with fail
  have hX1 : Rd (w1.alloc (.cells #[.bool s, .slice xo x.length cx] 53)) xo cx x := hX.mono (((Gr.refl _).alloc _).below)
  refine (trim_num _ _ _ _ _ hX1).mono ?_
  rintro e w2 ⟨rfl, hg⟩
  have hT := hX1.trim.mono hg.below
  have HT : Hid (vals (trim x) = vals a - vals b) := (trim_vals x).trans HV.out
  have hnT := trim_nrm x
  have k3 := (k2.alloc (.cells #[.bool s, .slice xo x.length cx] 53)).mono hg.below (by simp only [World.size_alloc]; have := k2.lt; omega)
  have hbl : Below w.heap.size w w2 := b3.trans ((((Gr.refl _).alloc _).trans hg).below.mono b3.size)
  clear hX hX1 hg k0 k1 k2 b3 c0 c1 c2 c3
  have q0 := k3.c0
  have q1 := k3.c1
  have q2 := k3.f0
  have q3 := k3.f1
  generalize trim x = L at *
  go_wp2
  refine bodyPost_ret (v := .agg #[.bool (s && (L.length != 0)), .slice xo L.length cx]) (by simp [results, Try.results101, go_sem, q0, q1]) rfl ⟨xo, cx, L, rfl, ?_, hnT, HT.out, ?_⟩
  · exact (hT.setBk k3 _).setBk (k3.set0 _) _
  · exact (hbl.setCell (by simp only []; omega) _).setCell (by simp only []; omega) _

set_option maxHeartbeats 1000000 in
theorem add_lt (s t : Bool) (ao bo : Option Addr) (ca cb : Nat) (a b : List Int) (w : World) (ha : Rd w ao ca a) (hb : Rd w bo cb b) (hst : (s == t) = false) (hna : nrm a) (hba : vals a < vals b) :
    Calls Try.prog 101 #[.agg #[.bool s, .slice ao a.length ca], .agg #[.bool t, .slice bo b.length cb]] w fun e w' => ∃ ao cap l, e = .returned (.agg #[.bool (t && (l.length != 0)), .slice ao l.length cap]) ∧ Rd w' ao cap l ∧ nrm l ∧ vals l = vals b - vals a ∧ Below w.heap.size w w' := by

  have hc : ¬ 0 ≤ cmpI (vals a) (vals b) := by unfold cmpI; rw [if_pos hba]; omega
  have b3 := below3 w (.cells #[.bool s, .slice ao a.length ca] 53) (.cells #[.bool t, .slice bo b.length cb] 53) (.cells #[.bool false, .slice none 0 0] 53)
  have hR := ha.mono b3
  have hS := hb.mono b3
  have k0 : Bk (((w.alloc (.cells #[.bool s, .slice ao a.length ca] 53)).alloc (.cells #[.bool t, .slice bo b.length cb] 53)).alloc (.cells #[.bool false, .slice none 0 0] 53)) w.heap.size (.bool s) (.slice ao a.length ca) := ((Bk.new w _ _).alloc _).alloc _
  have k1 : Bk (((w.alloc (.cells #[.bool s, .slice ao a.length ca] 53)).alloc (.cells #[.bool t, .slice bo b.length cb] 53)).alloc (.cells #[.bool false, .slice none 0 0] 53)) (w.heap.size + 1) (.bool t) (.slice bo b.length cb) := by simpa using (Bk.new (w.alloc (.cells #[.bool s, .slice ao a.length ca] 53)) (.bool t) (.slice bo b.length cb)).alloc (.cells #[.bool false, .slice none 0 0] 53)
  have k2 : Bk (((w.alloc (.cells #[.bool s, .slice ao a.length ca] 53)).alloc (.cells #[.bool t, .slice bo b.length cb] 53)).alloc (.cells #[.bool false, .slice none 0 0] 53)) (w.heap.size + 1 + 1) (.bool false) (.slice none 0 0) := by simpa using Bk.new ((w.alloc (.cells #[.bool s, .slice ao a.length ca] 53)).alloc (.cells #[.bool t, .slice bo b.length cb] 53)) (.bool false) (.slice none 0 0)
  go_enter Try.func101, Try.ntmps101
  go_wp2_with fail
  generalize ((w.alloc (.cells #[.bool s, .slice ao a.length ca] 53)).alloc (.cells #[.bool t, .slice bo b.length cb] 53)).alloc (.cells #[.bool false, .slice none 0 0] 53) = W3 at *
  refine (cmps_any _ _ _ _ _ _ _ _ _ hR hS).mono ?_
  rintro e w0 ⟨rfl, hg0⟩
  replace k0 := k0.mono hg0.below k0.lt
  replace k1 := k1.mono hg0.below k1.lt
  replace k2 := k2.mono hg0.below k2.lt
  replace b3 := b3.trans (hg0.below.mono b3.size)
  replace hR := hR.mono hg0.below
  replace hS := hS.mono hg0.below
  clear hg0
  have c0 := k0.c0
  have c1 := k0.c1
  have c2 := k1.c0
  have c3 := k1.c1
  go_wp2_with fail
  clear c0 c1 c2 c3
  refine (less_any _ _ _ _ _ _ _ _ _ hS hR hna (by omega)).mono ?_
  rintro e w1 ⟨xo, cx, x, rfl, hX, hnx, hvx, hb1⟩
  have hnn := hvx
  replace k0 := k0.mono hb1 k0.lt
  replace k1 := k1.mono hb1 k1.lt
  replace k2 := k2.mono hb1 k2.lt
  replace b3 := b3.trans (hb1.mono b3.size)
  clear hR hS hb1 hnn
  have c0 := k0.c0
  have c1 := k0.c1
  have c2 := k1.c0
  have c3 := k1.c1
  have l0 := k0.lt
  have l1 := k1.lt
  have HV : Hid (vals x = vals b - vals a) := hvx
  clear hvx
  go_wp2_with fail
  have hX1 : Rd (w1.alloc (.cells #[.bool t, .slice xo x.length cx] 53)) xo cx x := hX.mono (((Gr.refl _).alloc _).below)
  refine (trim_num _ _ _ _ _ hX1).mono ?_
  rintro e w2 ⟨rfl, hg⟩
  have hT := hX1.trim.mono hg.below
  have HT : Hid (vals (trim x) = vals b - vals a) := (trim_vals x).trans HV.out
  have hnT := trim_nrm x
  have k3 := (k2.alloc (.cells #[.bool t, .slice xo x.length cx] 53)).mono hg.below (by simp only [World.size_alloc]; have := k2.lt; omega)
  have hbl : Below w.heap.size w w2 := b3.trans ((((Gr.refl _).alloc _).trans hg).below.mono b3.size)
  clear hX hX1 hg k0 k1 k2 b3 c0 c1 c2 c3
  have q0 := k3.c0
  have q1 := k3.c1
  have q2 := k3.f0
  have q3 := k3.f1
  generalize trim x = L at *
  go_wp2
  refine bodyPost_ret (v := .agg #[.bool (t && (L.length != 0)), .slice xo L.length cx]) (by simp [results, Try.results101, go_sem, q0, q1]) rfl ⟨xo, cx, L, rfl, ?_, hnT, HT.out, ?_⟩
  · exact (hT.setBk k3 _).setBk (k3.set0 _) _
  · exact (hbl.setCell (by simp only []; omega) _).setCell (by simp only []; omega) _

/-! ### Numbers with a sign -/
/-- The value x is the number n, as the reference lays it down. -/
def Nm (w : World) (x : Value) (n : Int) : Prop := ∃ ao cap l, x = .agg #[.bool (decide (n < 0)), .slice ao l.length cap] ∧ Rd w ao cap l ∧ nrm l ∧ vals l = n.natAbs
theorem Nm.mono {w w' : World} {x : Value} {n : Int} (h : Nm w x n) (g : Below w.heap.size w w') : Nm w' x n := by
  obtain ⟨ao, cap, l, rfl, hR, hn, hv⟩ := h
  exact ⟨ao, cap, l, rfl, hR.mono g, hn, hv⟩
theorem Nm.setBk {w : World} {x : Value} {n : Int} (h : Nm w x n) {b o : Nat} {u v : Value} (hb : Bk w b u v) (z : Value) : Nm (w.setCell ⟨b, o, none⟩ z) x n := by
  obtain ⟨ao, cap, l, rfl, hR, hn, hv⟩ := h
  exact ⟨ao, cap, l, rfl, hR.setBk hb z, hn, hv⟩
/-- A number that is not too great. -/
def small (n : Int) : Prop := n.natAbs < pw 400
theorem small_len {l : List Int} (hd : ∀ d ∈ l, isD d) (hn : nrm l) {n : Int} (hv : vals l = n.natAbs) (h : small n) : l.length ≤ 400 :=
  nrm_short (allD_of hd) hn 400 (by rw [hv]; exact h)
theorem flag {l : List Int} (hd : ∀ d ∈ l, isD d) (hn : nrm l) {n : Int} {r : Bool} (hv : vals l = n.natAbs) (hr : r = true → n ≤ 0) (hr' : r = false → 0 ≤ n) : (r && (l.length != 0)) = decide (n < 0) := by
  have hz := nrm_zero (allD_of hd) hn
  by_cases h0 : l.length = 0
  · have : l = [] := List.eq_nil_of_length_eq_zero h0
    have hv0 := hz.2 this
    have : ¬ n < 0 := by omega
    simp [h0, this]
  · have : vals l ≠ 0 := fun e => h0 (by rw [hz.1 e]; rfl)
    cases r with
    | true => have := hr rfl; have : n < 0 := by omega
              simp [h0, this]
    | false => have := hr' rfl; have : ¬ n < 0 := by omega
               simp [this]

theorem neg_num (x : Value) (n : Int) (w : World) (h : Nm w x n) : Calls Try.prog 108 #[x] w fun e w' => ∃ z, e = .returned z ∧ Nm w' z (-n) ∧ Below w.heap.size w w' := by
  obtain ⟨ao, cap, l, rfl, hR, hn, hv⟩ := h
  refine (neg_core _ ao cap l w hR).mono ?_
  rintro e w' ⟨rfl, hR', hb⟩
  have hv' : vals (trim l) = (-n).natAbs := by rw [trim_vals, hv, Int.natAbs_neg]
  refine ⟨_, rfl, ⟨ao, cap, trim l, ?_, hR', trim_nrm l, hv'⟩, hb⟩
  rw [flag (n := -n) (trim_mem hR.dig) (trim_nrm l) hv' (fun h => by simp at h; omega) (fun h => by simp at h; omega)]

theorem add_num (x y : Value) (m n : Int) (w : World) (hx : Nm w x m) (hy : Nm w y n) (sm : small m) (sn : small n) :
    Calls Try.prog 101 #[x, y] w fun e w' => ∃ z, e = .returned z ∧ Nm w' z (m + n) ∧ Below w.heap.size w w' := by
  obtain ⟨ao, ca, a, rfl, ha, hna, hva⟩ := hx
  obtain ⟨bo, cb, b, rfl, hb, hnb, hvb⟩ := hy
  have la := small_len ha.dig hna hva sm
  have lb := small_len hb.dig hnb hvb sn
  by_cases hst : (decide (m < 0) == decide (n < 0)) = true
  · refine (add_same _ _ ao bo ca cb a b w ha hb hst (by omega) (by omega)).mono ?_
    rintro e w' ⟨o, c, l, rfl, hR, hn, hv, hbl⟩
    have hs : decide (m < 0) = decide (n < 0) := by simpa using hst
    have hv' : vals l = (m + n).natAbs := by
      by_cases h1 : m < 0
      · have h2 : n < 0 := by rw [decide_eq_true h1] at hs; simpa using hs.symm
        omega
      · have h2 : ¬ n < 0 := by rw [decide_eq_false h1] at hs; simpa using hs.symm
        omega
    refine ⟨_, rfl, ⟨o, c, l, ?_, hR, hn, hv'⟩, hbl⟩
    rw [flag (n := m + n) hR.dig hn hv' (fun h => by rw [h] at hs; have := of_decide_eq_true h; have := of_decide_eq_true hs.symm; omega) (fun h => by rw [h] at hs; have := of_decide_eq_false h; have := of_decide_eq_false hs.symm; omega)]
  · have hst' : (decide (m < 0) == decide (n < 0)) = false := by simpa using hst
    have hs : decide (m < 0) ≠ decide (n < 0) := by simpa using hst
    have hop : (m < 0 ∧ 0 ≤ n) ∨ (0 ≤ m ∧ n < 0) := by
      by_cases h1 : m < 0 <;> by_cases h2 : n < 0
      · simp [h1, h2] at hs
      · omega
      · omega
      · simp [h1, h2] at hs
    by_cases hge : vals b ≤ vals a
    · refine (add_ge _ _ ao bo ca cb a b w ha hb hst' hnb hge).mono ?_
      rintro e w' ⟨o, c, l, rfl, hR, hn, hv, hbl⟩
      have hv' : vals l = (m + n).natAbs := by omega
      refine ⟨_, rfl, ⟨o, c, l, ?_, hR, hn, hv'⟩, hbl⟩
      rw [flag (n := m + n) hR.dig hn hv' (fun h => by have := of_decide_eq_true h; omega) (fun h => by have := of_decide_eq_false h; omega)]
    · refine (add_lt _ _ ao bo ca cb a b w ha hb hst' hna (by omega)).mono ?_
      rintro e w' ⟨o, c, l, rfl, hR, hn, hv, hbl⟩
      have hv' : vals l = (m + n).natAbs := by omega
      refine ⟨_, rfl, ⟨o, c, l, ?_, hR, hn, hv'⟩, hbl⟩
      rw [flag (n := m + n) hR.dig hn hv' (fun h => by have := of_decide_eq_true h; omega) (fun h => by have := of_decide_eq_false h; omega)]
end
end Go.Proofs.Ytljdnahomhbenaa
