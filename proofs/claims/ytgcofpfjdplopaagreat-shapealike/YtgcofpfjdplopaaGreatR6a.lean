/- The reference of ring: In, at, Turn, between, On, more. -/
import Derived.Test.YtgcofpfjdplopaaGreatEd
import Derived.Test.YtgcofpfjdplopaaGreatSg6
import Derived.Test.YtgcofpfjdplopaaGreatTurnsPJ
namespace Go.Proofs.YtgcofpfjdplopaaGreat
section
open Go.RowKit Go.Shelf Go.Sort

set_option maxHeartbeats 1000000 in
theorem rin6_any (x y : Int) (w : World) : Calls Tryz.prog 28 #[pt x y] w fun e w' => e = .returned (.bool (latB x && latB y)) ∧ Gr w w' := by
  by_cases h0 : -1073741823 ≤ x
  · by_cases h1 : x ≤ 1073741823
    · by_cases h2 : -1073741823 ≤ y
      · by_cases h3 : y ≤ 1073741823
        · have e : (latB x && latB y) = true := by simp only [latB, h0, h1, h2, h3, decide_true, Bool.and_true]
          rw [e]; clear e
          go_enter Tryz.func28, Tryz.ntmps28
          go_wp2
          go_ret
          exact ⟨rfl, (Gr.refl _).alloc _⟩
        · have e : (latB x && latB y) = false := by unfold latB; grind
          rw [e]; clear e
          go_enter Tryz.func28, Tryz.ntmps28
          go_wp2
          go_ret
          exact ⟨rfl, (Gr.refl _).alloc _⟩
      · have e : (latB x && latB y) = false := by unfold latB; grind
        rw [e]; clear e
        go_enter Tryz.func28, Tryz.ntmps28
        go_wp2
        go_ret
        exact ⟨rfl, (Gr.refl _).alloc _⟩
    · have e : (latB x && latB y) = false := by unfold latB; grind
      rw [e]; clear e
      go_enter Tryz.func28, Tryz.ntmps28
      go_wp2
      go_ret
      exact ⟨rfl, (Gr.refl _).alloc _⟩
  · have e : (latB x && latB y) = false := by unfold latB; grind
    rw [e]; clear e
    go_enter Tryz.func28, Tryz.ntmps28
    go_wp2
    go_ret
    exact ⟨rfl, (Gr.refl _).alloc _⟩


theorem lat_in {p : P2} (h : lat p) : in32 p.1 ∧ in32 p.2 := by unfold lat at h; unfold in32; omega
set_option maxRecDepth 100000 in
set_option maxHeartbeats 2000000 in
theorem at_any (ao : Option Addr) (cap : Nat) (L : List (Int × Int)) (hlen : L.length ≤ 17592186043904) (h0 : 0 < L.length) (i : Nat) (hi : i ≤ 9223372036854775807) (w : World) (hP : Pts w ao L) :
    Calls Tryz.prog 107 #[.slice ao L.length cap, .int .i64 (i : Int)] w fun e w' => e = .returned (pt (pAt L i).1 (pAt L i).2) ∧ Gr w w' := by
  have hm : i % L.length < L.length := Nat.mod_lt _ h0
  obtain ⟨b, off, rfl, c0, c1⟩ := hP (i % L.length) hm
  have e : pAt L i = L.getD (i % L.length) (0, 0) := rfl
  rw [e]
  have em : (i : Int) % (L.length : Int) = ((i % L.length : Nat) : Int) := by push_cast; rfl
  have c0' := fun o => below_cell (w' := w.alloc o) c0 ((Gr.refl _).alloc _).below
  have c1' := fun o => below_cell (w' := w.alloc o) c1 ((Gr.refl _).alloc _).below
  have hne : ¬ L = [] := by rintro rfl; simp at h0
  generalize i % L.length = m at *
  generalize (L.getD m (0, 0)).1 = X at *
  generalize (L.getD m (0, 0)).2 = Y at *
  clear hP e
  go_enter Tryz.func107, Tryz.ntmps107
  go_wp2
  refine bodyPost_ret (v := pt X Y) (by simp [results, Tryz.results107, go_sem]) rfl ⟨rfl, (Gr.refl _).alloc _⟩

def sg6 (x : Int) : Int := if 0 < x then 1 else if x < 0 then -1 else 0
set_option maxRecDepth 100000 in
set_option maxHeartbeats 4000000 in
theorem turn6_any (o a b : P2) (ho : lat o) (ha : lat a) (hb : lat b) (w : World) :
    Calls Tryz.prog 72 #[pt o.1 o.2, pt a.1 a.2, pt b.1 b.2] w fun e w' => e = .returned (.int .i64 (sg6 (crs o a b))) ∧ Gr w w' := by
  obtain ⟨ox, oy⟩ := o
  obtain ⟨ax, ay⟩ := a
  obtain ⟨bx_, by_⟩ := b
  unfold lat at ho ha hb
  simp only at ho ha hb
  have p1 := prod_bd' (x := ax - ox) (y := by_ - oy) (M := 2147483646) (by omega) (by omega) (by omega) (by omega)
  have p2 := prod_bd' (x := ay - oy) (y := bx_ - ox) (M := 2147483646) (by omega) (by omega) (by omega) (by omega)
  have hc : Hid (crs (ox, oy) (ax, ay) (bx_, by_) = (ax - ox) * (by_ - oy) - (ay - oy) * (bx_ - ox)) := (by exact rfl)
  have d1 : wrap64 (ax - ox) = ax - ox := by unfold wrap64; omega
  have d2 : wrap64 (ay - oy) = ay - oy := by unfold wrap64; omega
  have d3 : wrap64 (bx_ - ox) = bx_ - ox := by unfold wrap64; omega
  have d4 : wrap64 (by_ - oy) = by_ - oy := by unfold wrap64; omega
  have m1 : wrap64 ((ax - ox) * (by_ - oy)) = (ax - ox) * (by_ - oy) := by unfold wrap64; omega
  have m2 : wrap64 ((ay - oy) * (bx_ - ox)) = (ay - oy) * (bx_ - ox) := by unfold wrap64; omega
  obtain ⟨A, hA⟩ : ∃ A, A = (ax - ox) * (by_ - oy) := ⟨_, rfl⟩
  obtain ⟨B, hB⟩ : ∃ B, B = (ay - oy) * (bx_ - ox) := ⟨_, rfl⟩
  rw [← hA] at m1 hc
  rw [← hB] at m2 hc
  have hA' : (ax - ox) * (by_ - oy) = A := hA.symm
  have hB' : (ay - oy) * (bx_ - ox) = B := hB.symm
  have e0 : wrap64 ox = ox := by unfold wrap64; omega
  have e1 : wrap64 oy = oy := by unfold wrap64; omega
  have e2 : wrap64 ax = ax := by unfold wrap64; omega
  have e3 : wrap64 ay = ay := by unfold wrap64; omega
  have e4 : wrap64 bx_ = bx_ := by unfold wrap64; omega
  have e5 : wrap64 by_ = by_ := by unfold wrap64; omega
  clear hA hB p1 p2
  generalize crs (ox, oy) (ax, ay) (bx_, by_) = C at *
  clear ho ha hb
  have hG : Gr w (((w.alloc (.cells #[.int .i32 ox, .int .i32 oy] 28)).alloc (.cells #[.int .i32 ax, .int .i32 ay] 28)).alloc (.cells #[.int .i32 bx_, .int .i32 by_] 28)) := (((Gr.refl _).alloc _).alloc _).alloc _
  rcases Int.lt_trichotomy A B with h | h | h
  · have hv : Hid (sg6 C = -1) := by unfold Hid sg6; rw [hc.out, if_neg (by omega), if_pos (by omega)]
    have h' : ¬ B < A := by omega
    clear hc
    go_enter Tryz.func72, Tryz.ntmps72
    go_wp2
    go_ret
    exact ⟨by rw [hv.out]; rfl, hG⟩
  · have hv : Hid (sg6 C = 0) := by unfold Hid sg6; rw [hc.out, if_neg (by omega), if_neg (by omega)]
    have h' : ¬ B < A := by omega
    have h'' : ¬ A < B := by omega
    clear hc h
    go_enter Tryz.func72, Tryz.ntmps72
    go_wp2
    go_ret
    exact ⟨by rw [hv.out]; rfl, hG⟩
  · have hv : Hid (sg6 C = 1) := by unfold Hid sg6; rw [hc.out, if_pos (by omega)]
    clear hc
    go_enter Tryz.func72, Tryz.ntmps72
    go_wp2
    go_ret
    exact ⟨by rw [hv.out]; rfl, hG⟩

def bet6 (v a b : Int) : Bool := decide (min a b ≤ v) && decide (v ≤ max a b)
set_option maxRecDepth 100000 in
set_option maxHeartbeats 2000000 in
theorem bet6_any (v a b : Int) (w : World) : Calls Tryz.prog 73 #[.int .i32 v, .int .i32 a, .int .i32 b] w fun e w' => e = .returned (.bool (bet6 v a b)) ∧ w' = w := by
  have hv : Hid (bet6 v a b = (decide (min a b ≤ v) && decide (v ≤ max a b))) := (by exact rfl)
  rcases Int.lt_trichotomy a b with hab | hab | hab
  · have e1 : min a b = a := by omega
    have e2 : max a b = b := by omega
    have hn : ¬ b ≤ a := by omega
    have hn2 : ¬ b < a := by omega
    by_cases h1 : a ≤ v
    · by_cases h2 : v ≤ b
      · have hr : Hid (bet6 v a b = true) := by unfold Hid; rw [hv.out, e1, e2]; simp [h1, h2]
        clear hv e1 e2
        go_enter Tryz.func73, Tryz.ntmps73
        go_wp2
        go_ret
        exact ⟨by rw [hr.out]; rfl, rfl⟩
      · have hr : Hid (bet6 v a b = false) := by unfold Hid; rw [hv.out, e1, e2]; simp [h2]
        clear hv e1 e2
        go_enter Tryz.func73, Tryz.ntmps73
        go_wp2
        go_ret
        exact ⟨by rw [hr.out]; rfl, rfl⟩
    · have hr : Hid (bet6 v a b = false) := by unfold Hid; rw [hv.out, e1, e2]; simp [h1]
      clear hv e1 e2
      go_enter Tryz.func73, Tryz.ntmps73
      go_wp2
      go_ret
      exact ⟨by rw [hr.out]; rfl, rfl⟩
  · subst hab
    have e1 : min a a = a := by omega
    have e2 : max a a = a := by omega
    by_cases h1 : a ≤ v
    · by_cases h2 : v ≤ a
      · have hr : Hid (bet6 v a a = true) := by unfold Hid; rw [hv.out, e1, e2]; simp [h1, h2]
        clear hv e1 e2
        go_enter Tryz.func73, Tryz.ntmps73
        go_wp2
        go_ret
        exact ⟨by rw [hr.out]; rfl, rfl⟩
      · have hr : Hid (bet6 v a a = false) := by unfold Hid; rw [hv.out, e1, e2]; simp [h2]
        clear hv e1 e2
        go_enter Tryz.func73, Tryz.ntmps73
        go_wp2
        go_ret
        exact ⟨by rw [hr.out]; rfl, rfl⟩
    · have hr : Hid (bet6 v a a = false) := by unfold Hid; rw [hv.out, e1, e2]; simp [h1]
      clear hv e1 e2
      go_enter Tryz.func73, Tryz.ntmps73
      go_wp2
      go_ret
      exact ⟨by rw [hr.out]; rfl, rfl⟩
  · have e1 : min a b = b := by omega
    have e2 : max a b = a := by omega
    have hn : ¬ a ≤ b := by omega
    have hn2 : ¬ a < b := by omega
    by_cases h1 : b ≤ v
    · by_cases h2 : v ≤ a
      · have hr : Hid (bet6 v a b = true) := by unfold Hid; rw [hv.out, e1, e2]; simp [h1, h2]
        clear hv e1 e2
        go_enter Tryz.func73, Tryz.ntmps73
        go_wp2
        go_ret
        exact ⟨by rw [hr.out]; rfl, rfl⟩
      · have hr : Hid (bet6 v a b = false) := by unfold Hid; rw [hv.out, e1, e2]; simp [h2]
        clear hv e1 e2
        go_enter Tryz.func73, Tryz.ntmps73
        go_wp2
        go_ret
        exact ⟨by rw [hr.out]; rfl, rfl⟩
    · have hr : Hid (bet6 v a b = false) := by unfold Hid; rw [hv.out, e1, e2]; simp [h1]
      clear hv e1 e2
      go_enter Tryz.func73, Tryz.ntmps73
      go_wp2
      go_ret
      exact ⟨by rw [hr.out]; rfl, rfl⟩

theorem on6_eq (p a b : P2) : onP p a b = (((sg6 (crs a b p) == 0) && bet6 p.1 a.1 b.1) && bet6 p.2 a.2 b.2) := by
  have : (sg6 (crs a b p) == 0) = decide (crs a b p = 0) := by
    unfold sg6
    rw [Bool.eq_iff_iff]
    simp
    split
    · simp; omega
    · split
      · simp; omega
      · simp; omega
  rw [this]
  unfold onP bet6
  simp only [Bool.and_assoc]
set_option maxRecDepth 100000 in
set_option maxHeartbeats 4000000 in
theorem on6_any (p a b : P2) (hp : lat p) (ha : lat a) (hb : lat b) (w : World) :
    Calls Tryz.prog 31 #[pt p.1 p.2, pt a.1 a.2, pt b.1 b.2] w fun e w' => e = .returned (.bool (onP p a b)) ∧ Gr w w' := by
  have T : Hid (∀ w, Calls Tryz.prog 72 #[pt a.1 a.2, pt b.1 b.2, pt p.1 p.2] w fun e w' => e = .returned (.int .i64 (sg6 (crs a b p))) ∧ Gr w w') := fun w => turn6_any a b p ha hb hp w
  have X : Hid (∀ w, Calls Tryz.prog 73 #[.int .i32 p.1, .int .i32 a.1, .int .i32 b.1] w fun e w' => e = .returned (.bool (bet6 p.1 a.1 b.1)) ∧ w' = w) := bet6_any _ _ _
  have Y : Hid (∀ w, Calls Tryz.prog 73 #[.int .i32 p.2, .int .i32 a.2, .int .i32 b.2] w fun e w' => e = .returned (.bool (bet6 p.2 a.2 b.2)) ∧ w' = w) := bet6_any _ _ _
  have hv : Hid (onP p a b = (((sg6 (crs a b p) == 0) && bet6 p.1 a.1 b.1) && bet6 p.2 a.2 b.2)) := on6_eq p a b
  have hG : Gr w (((w.alloc (.cells #[.int .i32 p.1, .int .i32 p.2] 28)).alloc (.cells #[.int .i32 a.1, .int .i32 a.2] 28)).alloc (.cells #[.int .i32 b.1, .int .i32 b.2] 28)) := (((Gr.refl _).alloc _).alloc _).alloc _
  have k0 : PtB (((w.alloc (.cells #[.int .i32 p.1, .int .i32 p.2] 28)).alloc (.cells #[.int .i32 a.1, .int .i32 a.2] 28)).alloc (.cells #[.int .i32 b.1, .int .i32 b.2] 28)) w.heap.size p := ((PtB.new w p).alloc _).alloc _
  have k1 : PtB (((w.alloc (.cells #[.int .i32 p.1, .int .i32 p.2] 28)).alloc (.cells #[.int .i32 a.1, .int .i32 a.2] 28)).alloc (.cells #[.int .i32 b.1, .int .i32 b.2] 28)) (w.heap.size + 1) a := by
    have := (PtB.new (w.alloc (.cells #[.int .i32 p.1, .int .i32 p.2] 28)) a).alloc (.cells #[.int .i32 b.1, .int .i32 b.2] 28)
    rwa [World.size_alloc] at this
  have k2 : PtB (((w.alloc (.cells #[.int .i32 p.1, .int .i32 p.2] 28)).alloc (.cells #[.int .i32 a.1, .int .i32 a.2] 28)).alloc (.cells #[.int .i32 b.1, .int .i32 b.2] 28)) (w.heap.size + 1 + 1) b := by
    have := PtB.new ((w.alloc (.cells #[.int .i32 p.1, .int .i32 p.2] 28)).alloc (.cells #[.int .i32 a.1, .int .i32 a.2] 28)) b
    rwa [World.size_alloc, World.size_alloc] at this
  generalize sg6 (crs a b p) = t at *
  generalize bet6 p.1 a.1 b.1 = B1 at *
  generalize bet6 p.2 a.2 b.2 = B2 at *
  clear hp ha hb
  by_cases ht : t = 0
  · subst ht
    cases B1 with
    | false =>
      have hr : Hid (onP p a b = false) := by unfold Hid; rw [hv.out]; simp
      clear hv
      go_enter Tryz.func31, Tryz.ntmps31
      go_wp2_with (first | (go_at_call 72; refine (T.out _).mono ?_; rintro e w1 ⟨rfl, g1⟩; have x0 := (k0.gr g1).c0; have x1 := (k1.gr g1).c0; have x2 := (k2.gr g1).c0; have y0 := (k0.gr g1).c1; have y1 := (k1.gr g1).c1; have y2 := (k2.gr g1).c1) | (go_at_call 73; refine (X.out _).mono ?_; rintro e w2 ⟨rfl, rfl⟩))
      go_ret
      exact ⟨by rw [hr.out]; rfl, hG.trans g1⟩
    | true =>
      have hr : Hid (onP p a b = B2) := by unfold Hid; rw [hv.out]; simp
      clear hv
      go_enter Tryz.func31, Tryz.ntmps31
      go_wp2_with (first | (go_at_call 72; refine (T.out _).mono ?_; rintro e w1 ⟨rfl, g1⟩; have x0 := (k0.gr g1).c0; have x1 := (k1.gr g1).c0; have x2 := (k2.gr g1).c0; have y0 := (k0.gr g1).c1; have y1 := (k1.gr g1).c1; have y2 := (k2.gr g1).c1) | (go_at_call 73; first | (refine (X.out _).mono ?_; clear X; rintro e w2 ⟨rfl, rfl⟩) | (refine (Y.out _).mono ?_; rintro e w2 ⟨rfl, rfl⟩)))
      go_ret
      exact ⟨by rw [hr.out]; rfl, hG.trans g1⟩
  · have ht' : (t == 0) = false := by simpa using ht
    have hr : Hid (onP p a b = false) := by unfold Hid; rw [hv.out, ht']; simp
    clear hv
    go_enter Tryz.func31, Tryz.ntmps31
    go_wp2_with (first | (go_at_call 72; refine (T.out _).mono ?_; rintro e w1 ⟨rfl, g1⟩))
    go_ret
    exact ⟨by rw [hr.out]; rfl, hG.trans g1⟩
end
end Go.Proofs.YtgcofpfjdplopaaGreat
