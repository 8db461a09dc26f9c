/- Contracts of the reference's decisions on points: on the lattice, the order, products rounded, turns, sectors, directions, on a segment. -/
import Derived.Test.YtljdnahomhbenaaRef5
import Derived.Test.YtljdnahomhbenaaTurnsP
namespace Go.Proofs.Ytljdnahomhbenaa
section
open Go.RowKit Go.Sort

set_option maxHeartbeats 1000000 in
theorem rin_any (x y : Int) (w : World) : Calls Try.prog 50 #[pt x y] w fun e w' => e = .returned (.bool (latB x && latB y)) ∧ Gr w w' := by
  by_cases h0 : -1073741823 ≤ x
  · by_cases h1 : x ≤ 1073741823
    · by_cases h2 : -1073741823 ≤ y
      · by_cases h3 : y ≤ 1073741823
        · have e : (latB x && latB y) = true := by simp only [latB, h0, h1, h2, h3, decide_true, Bool.and_true]
          rw [e]; clear e
          go_enter Try.func50, Try.ntmps50
          go_wp2
          go_ret
          exact ⟨rfl, (Gr.refl _).alloc _⟩
        · have e : (latB x && latB y) = false := by unfold latB; grind
          rw [e]; clear e
          go_enter Try.func50, Try.ntmps50
          go_wp2
          go_ret
          exact ⟨rfl, (Gr.refl _).alloc _⟩
      · have e : (latB x && latB y) = false := by unfold latB; grind
        rw [e]; clear e
        go_enter Try.func50, Try.ntmps50
        go_wp2
        go_ret
        exact ⟨rfl, (Gr.refl _).alloc _⟩
    · have e : (latB x && latB y) = false := by unfold latB; grind
      rw [e]; clear e
      go_enter Try.func50, Try.ntmps50
      go_wp2
      go_ret
      exact ⟨rfl, (Gr.refl _).alloc _⟩
  · have e : (latB x && latB y) = false := by unfold latB; grind
    rw [e]; clear e
    go_enter Try.func50, Try.ntmps50
    go_wp2
    go_ret
    exact ⟨rfl, (Gr.refl _).alloc _⟩

set_option maxHeartbeats 1000000 in
theorem rcmp_any (ax ay bx by_ : Int) (w : World) :
    Calls Try.prog 24 #[pt ax ay, pt bx by_] w fun e w' => e = .returned (.int .i64 (cmpP ax ay bx by_)) ∧ Gr w w' := by
  by_cases h : ax < bx
  · have e : cmpP ax ay bx by_ = -1 := by unfold cmpP cmpI; rw [if_neg (by omega), if_pos h]
    rw [e]; clear e
    go_enter Try.func24, Try.ntmps24
    go_wp2
    go_ret
    exact ⟨rfl, ((Gr.refl _).alloc _).alloc _⟩
  · by_cases h1 : ax = bx
    · have h1' : (ax == bx) = true := by simp [h1]
      by_cases h2 : ay < by_
      · have e : cmpP ax ay bx by_ = -1 := by unfold cmpP cmpI; rw [if_pos h1, if_pos h2]
        clear h1
        rw [e]; clear e
        go_enter Try.func24, Try.ntmps24
        go_wp2
        go_ret
        exact ⟨rfl, ((Gr.refl _).alloc _).alloc _⟩
      · by_cases h3 : ay = by_
        · have h3' : (ay == by_) = true := by simp [h3]
          have e : cmpP ax ay bx by_ = 0 := by unfold cmpP cmpI; rw [if_pos h1, if_neg h2, if_neg (by omega)]
          clear h1 h3
          rw [e]; clear e
          go_enter Try.func24, Try.ntmps24
          go_wp2
          go_ret
          exact ⟨rfl, ((Gr.refl _).alloc _).alloc _⟩
        · have h3' : (ay == by_) = false := by simp [h3]
          have e : cmpP ax ay bx by_ = 1 := by unfold cmpP cmpI; rw [if_pos h1, if_neg h2, if_pos (by omega)]
          clear h1 h3
          rw [e]; clear e
          go_enter Try.func24, Try.ntmps24
          go_wp2
          go_ret
          exact ⟨rfl, ((Gr.refl _).alloc _).alloc _⟩
    · have h1' : (ax == bx) = false := by simp [h1]
      have e : cmpP ax ay bx by_ = 1 := by unfold cmpP cmpI; rw [if_neg h1, if_neg h, if_pos (by omega)]
      clear h1
      rw [e]; clear e
      go_enter Try.func24, Try.ntmps24
      go_wp2
      go_ret
      exact ⟨rfl, ((Gr.refl _).alloc _).alloc _⟩

theorem small_in {n : Int} (h : -680564733841876926926749214863536422912 ≤ n) (h' : n ≤ 680564733841876926926749214863536422912) : -p2 6000 < n ∧ n < p2 6000 := by
  have := big_6000; omega
theorem p2_big {n : Int} (h : -(4 * (4294967296 * 4294967296)) ≤ n) (h' : n ≤ 4 * (4294967296 * 4294967296)) : -p2 6000 < n ∧ n < p2 6000 := small_in (by omega) (by omega)
theorem lo_wrap (n : Int) : wrap64 (loI n) = wrap64 n := by unfold loI wrap64; omega
set_option maxHeartbeats 1000000 in
theorem rround_any (x : Value) (n : Int) (w : World) (hx : Nm w x n) (h : -p2 6000 < n ∧ n < p2 6000) :
    Calls Try.prog 73 #[x] w fun e w' => e = .returned (.int .i64 (wrap64 n)) ∧ Below w.heap.size w w' := by
  obtain ⟨s, ao, la, ca, rfl, hx'⟩ := hx.shape
  have HX : Hid (Nm (w.alloc (.cells #[.bool s, .slice ao la ca] 53)) (.agg #[.bool s, .slice ao la ca]) n) := hx'.out.mono ((Gr.refl _).alloc _).below
  have hb0 : Below w.heap.size w (w.alloc (.cells #[.bool s, .slice ao la ca] 53)) := ((Gr.refl _).alloc _).below
  have H : Hid (-p2 6000 < n ∧ n < p2 6000) := h
  clear hx hx' h
  go_enter Try.func73, Try.ntmps73
  go_wp2_with fail
  refine (round_num _ n _ HX.out H.out.1 H.out.2).mono ?_
  rintro e w1 ⟨rfl, hb1⟩
  go_wp2
  go_ret
  refine ⟨?_, hb0.trans (hb1.mono hb0.size)⟩
  show Ending.returned (.int .i64 (wrap64 (loI n))) = _
  rw [lo_wrap]

theorem rCross_any_bd {ox oy ax ay bx by_ : Int} (h0 : in32 ox) (h1 : in32 oy) (h2 : in32 ax) (h3 : in32 ay) (h4 : in32 bx) (h5 : in32 by_) : -p2 6000 < (ax - ox) * (by_ - oy) - (ay - oy) * (bx - ox) ∧ (ax - ox) * (by_ - oy) - (ay - oy) * (bx - ox) < p2 6000 := by
  have a := bd_prod h2 h0 h5 h1
  have b := bd_prod h3 h1 h4 h0
  exact p2_big (by omega) (by omega)
theorem rDot_any_bd {ox oy ax ay bx by_ : Int} (h0 : in32 ox) (h1 : in32 oy) (h2 : in32 ax) (h3 : in32 ay) (h4 : in32 bx) (h5 : in32 by_) : -p2 6000 < (ax - ox) * (bx - ox) + (ay - oy) * (by_ - oy) ∧ (ax - ox) * (bx - ox) + (ay - oy) * (by_ - oy) < p2 6000 := by
  have a := bd_prod h2 h0 h4 h0
  have b := bd_prod h3 h1 h5 h1
  exact p2_big (by omega) (by omega)

set_option maxHeartbeats 1000000 in
theorem rsquare_num (ax ay bx by_ : Int) (h2 : in32 ax) (h3 : in32 ay) (h4 : in32 bx) (h5 : in32 by_) (w : World) :
    Calls Try.prog 44 #[pt ax ay, pt bx by_] w fun e w' => ∃ z, e = .returned z ∧ Nm w' z ((bx - ax) * (bx - ax) + (by_ - ay) * (by_ - ay)) ∧ Below w.heap.size w w' := by
  have C : Hid (∀ w, Calls Try.prog 71 #[pt ax ay, pt bx by_, pt bx by_] w fun e w' => ∃ z, e = .returned z ∧ Nm w' z ((bx - ax) * (bx - ax) + (by_ - ay) * (by_ - ay)) ∧ Below w.heap.size w w') := rdot_num ax ay bx by_ bx by_ h2 h3 h4 h5 h4 h5
  clear h2 h3 h4 h5
  generalize (bx - ax) * (bx - ax) + (by_ - ay) * (by_ - ay) = N at *
  have hb0 : Below w.heap.size w (((w.alloc (.cells #[.int .i32 ax, .int .i32 ay] 28)).alloc (.cells #[.int .i32 bx, .int .i32 by_] 28)).alloc (.cells #[.bool false, .slice none 0 0] 53)) := ((((Gr.refl _).alloc _).alloc _).alloc _).below
  have k0 : Bk (((w.alloc (.cells #[.int .i32 ax, .int .i32 ay] 28)).alloc (.cells #[.int .i32 bx, .int .i32 by_] 28)).alloc (.cells #[.bool false, .slice none 0 0] 53)) (w.heap.size + 1 + 1) (.bool false) (.slice none 0 0) := by
    simpa using Bk.new ((w.alloc (.cells #[.int .i32 ax, .int .i32 ay] 28)).alloc (.cells #[.int .i32 bx, .int .i32 by_] 28)) (.bool false) (.slice none 0 0)
  go_enter Try.func44, Try.ntmps44
  go_wp2_with fail
  refine (C.out _).mono ?_
  rintro e w1 ⟨z, rfl, hz, hb1⟩
  obtain ⟨r, ao, la, ca, rfl, hz'⟩ := hz.shape
  replace k0 := k0.mono hb1 k0.lt
  replace hb0 := hb0.trans (hb1.mono hb0.size)
  have q0 := k0.c0
  have q1 := k0.c1
  have q2 := k0.f0
  have q3 := k0.f1
  clear hz C
  go_wp2
  refine bodyPost_ret (v := .agg #[.bool r, .slice ao la ca]) (by simp [results, Try.results44, go_sem, q0, q1]) rfl ⟨_, rfl, ?_, ?_⟩
  · exact (hz'.out.setBk k0 _).setBk (k0.set0 _) _
  · exact (hb0.setCell (by simp only []; omega) _).setCell (by simp only []; omega) _

set_option maxHeartbeats 1000000 in
theorem rDist2_any (ax ay bx by_ : Int) (h2 : in32 ax) (h3 : in32 ay) (h4 : in32 bx) (h5 : in32 by_) (w : World) :
    Calls Try.prog 46 #[pt ax ay, pt bx by_] w fun e w' => e = .returned (.int .i64 (wrap64 ((bx - ax) * (bx - ax) + (by_ - ay) * (by_ - ay)))) ∧ Below w.heap.size w w' := by
  have C : Hid (∀ w, Calls Try.prog 44 #[pt ax ay, pt bx by_] w fun e w' => ∃ z, e = .returned z ∧ Nm w' z ((bx - ax) * (bx - ax) + (by_ - ay) * (by_ - ay)) ∧ Below w.heap.size w w') := rsquare_num ax ay bx by_ h2 h3 h4 h5
  have P : Hid (-p2 6000 < (bx - ax) * (bx - ax) + (by_ - ay) * (by_ - ay) ∧ (bx - ax) * (bx - ax) + (by_ - ay) * (by_ - ay) < p2 6000) := rDot_any_bd h2 h3 h4 h5 h4 h5
  clear h2 h3 h4 h5
  generalize (bx - ax) * (bx - ax) + (by_ - ay) * (by_ - ay) = N at *
  have hb0 : Below w.heap.size w ((w.alloc (.cells #[.int .i32 ax, .int .i32 ay] 28)).alloc (.cells #[.int .i32 bx, .int .i32 by_] 28)) := (((Gr.refl _).alloc _).alloc _).below
  go_enter Try.func46, Try.ntmps46
  go_wp2_with fail
  refine (C.out _).mono ?_
  rintro e w1 ⟨z, rfl, hz, hb1⟩
  obtain ⟨r, o, l, c, rfl, hz'⟩ := hz.shape
  replace hb0 := hb0.trans (hb1.mono hb0.size)
  clear hz hb1
  go_wp2_with fail
  refine (rround_any _ N _ hz'.out P.out).mono ?_
  rintro e w2 ⟨rfl, hb2⟩
  go_wp2
  go_ret
  exact ⟨rfl, hb0.trans (hb2.mono hb0.size)⟩

def betB (a b x : Int) : Bool := (decide (a ≤ x) && decide (x ≤ b)) || (decide (b ≤ x) && decide (x ≤ a))
theorem rbetween_any (a b x : Int) (w : World) : Calls Try.prog 84 #[.int .i32 a, .int .i32 b, .int .i32 x] w fun e w' => e = .returned (.bool (betB a b x)) ∧ w' = w := by
  by_cases h0 : a ≤ x
  · by_cases h1 : x ≤ b
    · have e : betB a b x = true := by unfold betB; grind
      rw [e]; clear e
      go_enter Try.func84, Try.ntmps84
      go_wp2
      go_ret
      exact ⟨rfl, rfl⟩
    · have h2 : b ≤ x := by omega
      by_cases h3 : x ≤ a
      · have e : betB a b x = true := by unfold betB; grind
        rw [e]; clear e
        go_enter Try.func84, Try.ntmps84
        go_wp2
        go_ret
        exact ⟨rfl, rfl⟩
      · have e : betB a b x = false := by unfold betB; grind
        rw [e]; clear e
        go_enter Try.func84, Try.ntmps84
        go_wp2
        go_ret
        exact ⟨rfl, rfl⟩
  · by_cases h2 : b ≤ x
    · have h3 : x ≤ a := by omega
      have e : betB a b x = true := by unfold betB; grind
      rw [e]; clear e
      go_enter Try.func84, Try.ntmps84
      go_wp2
      go_ret
      exact ⟨rfl, rfl⟩
    · have e : betB a b x = false := by unfold betB; grind
      rw [e]; clear e
      go_enter Try.func84, Try.ntmps84
      go_wp2
      go_ret
      exact ⟨rfl, rfl⟩


def secI (ox oy ax ay : Int) : Int :=
  if ox < ax ∧ oy < ay then 2 else if ax < ox ∧ oy < ay then 4 else if ax < ox ∧ ay < oy then 6 else if ox < ax ∧ ay < oy then 8 else if ox < ax then 1 else if oy < ay then 3 else if ax < ox then 5 else if ay < oy then 7 else 0
theorem turn_sign (ox oy ax ay bx by_ : Int) : cmpI ((ax - ox) * (by_ - oy) - (ay - oy) * (bx - ox)) 0 = turnI ox oy ax ay bx by_ := by
  unfold turnI; apply cmpI_sub; omega
theorem prod_fits {a b c d : Int} (h1 : latB a = true) (h2 : latB b = true) (h3 : latB c = true) (h4 : latB d = true) : wrap64 ((a - b) * (c - d)) = (a - b) * (c - d) := by
  have := lat_bd h1; have := lat_bd h2; have := lat_bd h3; have := lat_bd h4
  have p := prod_bd' (x := a - b) (y := c - d) (M := 2147483646) (by omega) (by omega) (by omega) (by omega)
  unfold wrap64; omega
set_option maxRecDepth 20000 in
set_option maxHeartbeats 4000000 in
theorem rturn_any (ox oy ax ay bx by_ : Int) (h0 : in32 ox) (h1 : in32 oy) (h2 : in32 ax) (h3 : in32 ay) (h4 : in32 bx) (h5 : in32 by_) (w : World) :
    Calls Try.prog 25 #[pt ox oy, pt ax ay, pt bx by_] w fun e w' => e = .returned (.int .i64 (turnI ox oy ax ay bx by_)) ∧ Below w.heap.size w w' := by
  have C : Hid (∀ w, Calls Try.prog 53 #[pt ox oy, pt ax ay, pt bx by_] w fun e w' => ∃ z, e = .returned z ∧ Nm w' z ((ax - ox) * (by_ - oy) - (ay - oy) * (bx - ox)) ∧ Below w.heap.size w w') := rcross_num ox oy ax ay bx by_ h0 h1 h2 h3 h4 h5
  have T : Hid (cmpI ((ax - ox) * (by_ - oy) - (ay - oy) * (bx - ox)) 0 = turnI ox oy ax ay bx by_) := turn_sign ox oy ax ay bx by_
  have e0 := w64_in h0
  have e1 := w64_in h1
  have e2 := w64_in h2
  have e3 := w64_in h3
  have e4 := w64_in h4
  have e5 := w64_in h5
  have d1 := w64_dif h2 h0
  have d2 := w64_dif h5 h1
  have d3 := w64_dif h3 h1
  have d4 := w64_dif h4 h0
  clear h0 h1 h2 h3 h4 h5
  have I1 : Hid (∀ w, Calls Try.prog 50 #[pt ox oy] w fun e w' => e = .returned (.bool (latB ox && latB oy)) ∧ Gr w w') := rin_any ox oy
  have I2 : Hid (∀ w, Calls Try.prog 50 #[pt ax ay] w fun e w' => e = .returned (.bool (latB ax && latB ay)) ∧ Gr w w') := rin_any ax ay
  have I3 : Hid (∀ w, Calls Try.prog 50 #[pt bx by_] w fun e w' => e = .returned (.bool (latB bx && latB by_)) ∧ Gr w w') := rin_any bx by_
  have FT : Hid ((latB ox && latB oy) = true → (latB ax && latB ay) = true → (latB bx && latB by_) = true → wrap64 ((ax - ox) * (by_ - oy)) = (ax - ox) * (by_ - oy) ∧ wrap64 ((ay - oy) * (bx - ox)) = (ay - oy) * (bx - ox)) := by
    intro a b c
    simp only [Bool.and_eq_true] at a b c
    exact ⟨prod_fits b.1 a.1 c.2 a.2, prod_fits b.2 a.2 c.1 a.1⟩
  generalize (latB ox && latB oy) = b1 at *
  generalize (latB ax && latB ay) = b2 at *
  generalize (latB bx && latB by_) = b3 at *
  have hW : Gr w (((w.alloc (.cells #[.int .i32 ox, .int .i32 oy] 28)).alloc (.cells #[.int .i32 ax, .int .i32 ay] 28)).alloc (.cells #[.int .i32 bx, .int .i32 by_] 28)) := (((Gr.refl _).alloc _).alloc _).alloc _
  go_enter Try.func25, Try.ntmps25
  go_upto_region 1 with fail
  have x0 : (((w.alloc (.cells #[.int .i32 ox, .int .i32 oy] 28)).alloc (.cells #[.int .i32 ax, .int .i32 ay] 28)).alloc (.cells #[.int .i32 bx, .int .i32 by_] 28)).cell? ⟨w.heap.size, 0, none⟩ = some (.int .i32 ox) := by go_simp
  have x1 : (((w.alloc (.cells #[.int .i32 ox, .int .i32 oy] 28)).alloc (.cells #[.int .i32 ax, .int .i32 ay] 28)).alloc (.cells #[.int .i32 bx, .int .i32 by_] 28)).cell? ⟨w.heap.size, 1, none⟩ = some (.int .i32 oy) := by go_simp
  have x2 : (((w.alloc (.cells #[.int .i32 ox, .int .i32 oy] 28)).alloc (.cells #[.int .i32 ax, .int .i32 ay] 28)).alloc (.cells #[.int .i32 bx, .int .i32 by_] 28)).cell? ⟨w.heap.size + 1, 0, none⟩ = some (.int .i32 ax) := by go_simp
  have x3 : (((w.alloc (.cells #[.int .i32 ox, .int .i32 oy] 28)).alloc (.cells #[.int .i32 ax, .int .i32 ay] 28)).alloc (.cells #[.int .i32 bx, .int .i32 by_] 28)).cell? ⟨w.heap.size + 1, 1, none⟩ = some (.int .i32 ay) := by go_simp
  have x4 : (((w.alloc (.cells #[.int .i32 ox, .int .i32 oy] 28)).alloc (.cells #[.int .i32 ax, .int .i32 ay] 28)).alloc (.cells #[.int .i32 bx, .int .i32 by_] 28)).cell? ⟨w.heap.size + 1 + 1, 0, none⟩ = some (.int .i32 bx) := by go_simp
  have x5 : (((w.alloc (.cells #[.int .i32 ox, .int .i32 oy] 28)).alloc (.cells #[.int .i32 ax, .int .i32 ay] 28)).alloc (.cells #[.int .i32 bx, .int .i32 by_] 28)).cell? ⟨w.heap.size + 1 + 1, 1, none⟩ = some (.int .i32 by_) := by go_simp
  generalize ((w.alloc (.cells #[.int .i32 ox, .int .i32 oy] 28)).alloc (.cells #[.int .i32 ax, .int .i32 ay] 28)).alloc (.cells #[.int .i32 bx, .int .i32 by_] 28) = W at *
  go_wp2_with fail
  refine (I1.out _).mono ?_
  rintro e v1 ⟨rfl, g⟩
  replace hW := hW.trans g
  replace x0 := below_cell x0 g.below
  replace x1 := below_cell x1 g.below
  replace x2 := below_cell x2 g.below
  replace x3 := below_cell x3 g.below
  replace x4 := below_cell x4 g.below
  replace x5 := below_cell x5 g.below
  clear g
  cases b1 with
  | false =>
    go_wp2_with fail
    refine (C.out _).mono ?_
    rintro e v4 ⟨z, rfl, hz, hb⟩
    obtain ⟨r, o, l, c, rfl, hz'⟩ := hz.shape
    have hb0 := hW.below.trans (hb.mono hW.size)
    clear hz hb
    go_wp2_with fail
    refine (sign_num _ _ _ hz'.out).mono ?_
    rintro e v5 ⟨rfl, g⟩
    go_wp2
    go_ret
    refine ⟨?_, hb0.trans (g.below.mono hb0.size)⟩
    rw [← T.out]; rfl
  | true =>
    go_wp2_with fail
    refine (I2.out _).mono ?_
    rintro e v2 ⟨rfl, g⟩
    replace hW := hW.trans g
    replace x0 := below_cell x0 g.below
    replace x1 := below_cell x1 g.below
    replace x2 := below_cell x2 g.below
    replace x3 := below_cell x3 g.below
    replace x4 := below_cell x4 g.below
    replace x5 := below_cell x5 g.below
    clear g
    cases b2 with
    | false =>
      go_wp2_with fail
      refine (C.out _).mono ?_
      rintro e v4 ⟨z, rfl, hz, hb⟩
      obtain ⟨r, o, l, c, rfl, hz'⟩ := hz.shape
      have hb0 := hW.below.trans (hb.mono hW.size)
      clear hz hb
      go_wp2_with fail
      refine (sign_num _ _ _ hz'.out).mono ?_
      rintro e v5 ⟨rfl, g⟩
      go_wp2
      go_ret
      refine ⟨?_, hb0.trans (g.below.mono hb0.size)⟩
      rw [← T.out]; rfl
    | true =>
      go_wp2_with fail
      refine (I3.out _).mono ?_
      rintro e v3 ⟨rfl, g⟩
      replace hW := hW.trans g
      replace x0 := below_cell x0 g.below
      replace x1 := below_cell x1 g.below
      replace x2 := below_cell x2 g.below
      replace x3 := below_cell x3 g.below
      replace x4 := below_cell x4 g.below
      replace x5 := below_cell x5 g.below
      clear g
      cases b3 with
      | false =>
        go_wp2_with fail
        refine (C.out _).mono ?_
        rintro e v4 ⟨z, rfl, hz, hb⟩
        obtain ⟨r, o, l, c, rfl, hz'⟩ := hz.shape
        have hb0 := hW.below.trans (hb.mono hW.size)
        clear hz hb
        go_wp2_with fail
        refine (sign_num _ _ _ hz'.out).mono ?_
        rintro e v5 ⟨rfl, g⟩
        go_wp2
        go_ret
        refine ⟨?_, hb0.trans (g.below.mono hb0.size)⟩
        rw [← T.out]; rfl
      | true =>
        obtain ⟨f1, f2⟩ := FT.out (by first | rfl | trivial) (by first | rfl | trivial) (by first | rfl | trivial)
        have T2 : Hid (turnI ox oy ax ay bx by_ = cmpI ((ax - ox) * (by_ - oy)) ((ay - oy) * (bx - ox))) := rfl
        clear C T FT I1 I2 I3
        have C3 : (decide ((ay - oy) * (bx - ox) < (ax - ox) * (by_ - oy)) = true ∧ decide ((ay - oy) * (bx - ox) < (ax - ox) * (by_ - oy)) = true ∧ turnI ox oy ax ay bx by_ = 1) ∨ (decide ((ay - oy) * (bx - ox) < (ax - ox) * (by_ - oy)) = false ∧ decide ((ax - ox) * (by_ - oy) < (ay - oy) * (bx - ox)) = true ∧ turnI ox oy ax ay bx by_ = -1) ∨ (decide ((ay - oy) * (bx - ox) < (ax - ox) * (by_ - oy)) = false ∧ decide ((ax - ox) * (by_ - oy) < (ay - oy) * (bx - ox)) = false ∧ turnI ox oy ax ay bx by_ = 0) := by
          rw [T2.out]
          generalize (ax - ox) * (by_ - oy) = P
          generalize (ay - oy) * (bx - ox) = Q
          unfold cmpI
          simp only [decide_eq_true_eq, decide_eq_false_iff_not]
          split <;> (try split) <;> omega
        clear T2
        rcases C3 with ⟨c1, c2, c3⟩ | ⟨c1, c2, c3⟩ | ⟨c1, c2, c3⟩
        all_goals
          replace c3 : Hid _ := c3
          go_wp2
          go_ret
          exact ⟨by rw [c3.out]; rfl, hW.below⟩
end
end Go.Proofs.Ytljdnahomhbenaa
