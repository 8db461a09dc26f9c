/- Contracts of the program's points and boxes: what each answers for every input; the memory that was there is as it was. Memory: what a call leaves as it was; small laws over blocks, cells and rows. -/
import Derived.Test.YtgcofpfjdplopaaGreatPt1J
import Derived.Test.YtgcofpfjdplopaaGreatWordJ
import Derived.BigQuiet
import Derived.Deep.RegionWith
import Derived.Deep.RegionHeld3
import Derived.Deep.DeepCutAuto
namespace Go.Proofs.YtgcofpfjdplopaaGreat
section
open Go.RowKit Go.Sort

def latB (v : Int) : Bool := decide (-1073741823 ≤ v) && decide (v ≤ 1073741823)
theorem lat_any (v : Int) (w : World) : Calls Tryz.prog 116 #[.int .i32 v] w fun e w' => e = .returned (.bool (latB v)) ∧ w' = w := by
  by_cases h : -1073741823 ≤ v
  · by_cases k : v ≤ 1073741823
    · have e : latB v = true := by simp [latB, h, k]
      rw [e]; clear e
      go_enter Tryz.func116, Tryz.ntmps116
      go_wp2
      go_ret
      exact ⟨rfl, rfl⟩
    · have e : latB v = false := by simp only [latB, h, k, decide_true, decide_false, Bool.and_false]
      rw [e]; clear e
      go_enter Tryz.func116, Tryz.ntmps116
      go_wp2
      go_ret
      exact ⟨rfl, rfl⟩
  · have e : latB v = false := by simp only [latB, h, decide_false, Bool.false_and]
    rw [e]; clear e
    go_enter Tryz.func116, Tryz.ntmps116
    go_wp2
    go_ret
    exact ⟨rfl, rfl⟩

theorem in_any (x y : Int) (w : World) : Calls Tryz.prog 80 #[pt x y] w fun e w' => e = .returned (.bool (latB x && latB y)) ∧ Gr w w' := by
  cases h : latB x with
  | true =>
    have L : Hid (∀ w, Calls Tryz.prog 116 #[.int .i32 x] w fun e w' => e = .returned (.bool true) ∧ w' = w) := fun w => by rw [← h]; exact lat_any x w
    clear h
    go_enter Tryz.func80, Tryz.ntmps80
    go_wp2_with fail
    refine (L.out _).mono ?_
    rintro e w1 ⟨rfl, rfl⟩
    go_wp2_with fail
    refine (lat_any y _).mono ?_
    rintro e w1 ⟨rfl, rfl⟩
    go_wp2
    go_ret
    exact ⟨rfl, (Gr.refl _).alloc _⟩
  | false =>
    have L : Hid (∀ w, Calls Tryz.prog 116 #[.int .i32 x] w fun e w' => e = .returned (.bool false) ∧ w' = w) := fun w => by rw [← h]; exact lat_any x w
    clear h
    go_enter Tryz.func80, Tryz.ntmps80
    go_wp2_with fail
    refine (L.out _).mono ?_
    rintro e w1 ⟨rfl, rfl⟩
    go_wp2
    go_ret
    exact ⟨rfl, (Gr.refl _).alloc _⟩

/-- How two points are held against one another. -/
def cmpP (ax ay bx by_ : Int) : Int := if ax = bx then cmpI ay by_ else cmpI ax bx
theorem w64_sub2 (a b : Int) : wrap64 (wrap64 a - wrap64 b) = wrap64 (a - b) := by unfold wrap64; omega
theorem w64_add2 (a b : Int) : wrap64 (wrap64 a + wrap64 b) = wrap64 (a + b) := by unfold wrap64; omega
set_option maxHeartbeats 1000000 in
theorem cross_any (ox oy ax ay bx by_ : Int) (h1 : in32 ox) (h2 : in32 oy) (h3 : in32 ax) (h4 : in32 ay) (h5 : in32 bx) (h6 : in32 by_) (w : World) :
    Calls Tryz.prog 144 #[pt ox oy, pt ax ay, pt bx by_] w fun e w' => e = .returned (.int .i64 (wrap64 ((ax - ox) * (by_ - oy) - (ay - oy) * (bx - ox)))) ∧ Gr w w' := by
  have W1 : Hid (∀ w, Calls Tryz.prog 149 #[pt ox oy, pt ax ay] w fun e w' => e = .returned (.tuple #[.int .i64 (ax - ox), .int .i64 (ay - oy)]) ∧ Gr w w') := way_any ox oy ax ay h1 h2 h3 h4
  have W2 : Hid (∀ w, Calls Tryz.prog 149 #[pt ox oy, pt bx by_] w fun e w' => e = .returned (.tuple #[.int .i64 (bx - ox), .int .i64 (by_ - oy)]) ∧ Gr w w') := way_any ox oy bx by_ h1 h2 h5 h6
  clear h1 h2 h3 h4 h5 h6
  generalize ax - ox = AX at *
  generalize ay - oy = AY at *
  generalize bx - ox = BX at *
  generalize by_ - oy = BY at *
  go_enter Tryz.func144, Tryz.ntmps144
  go_wp2_with fail
  refine (W1.out _).mono ?_
  rintro e w1 ⟨rfl, g1⟩
  obtain ⟨c1, f1⟩ := g1.cells
  have z1 := g1.size
  simp only [World.size_alloc] at z1
  go_wp2_with fail
  refine (W2.out _).mono ?_
  rintro e w2 ⟨rfl, g2⟩
  go_wp2
  go_ret
  refine ⟨?_, (((((Gr.refl _).alloc _).alloc _).alloc _).trans g1).trans g2⟩
  show Ending.returned (.int .i64 (wrap64 (wrap64 (AX * BY) - wrap64 (AY * BX)))) = _
  rw [w64_sub2]
set_option maxHeartbeats 1000000 in
theorem dot_any (ox oy ax ay bx by_ : Int) (h1 : in32 ox) (h2 : in32 oy) (h3 : in32 ax) (h4 : in32 ay) (h5 : in32 bx) (h6 : in32 by_) (w : World) :
    Calls Tryz.prog 152 #[pt ox oy, pt ax ay, pt bx by_] w fun e w' => e = .returned (.int .i64 (wrap64 ((ax - ox) * (bx - ox) + (ay - oy) * (by_ - oy)))) ∧ Gr w w' := by
  have W1 : Hid (∀ w, Calls Tryz.prog 149 #[pt ox oy, pt ax ay] w fun e w' => e = .returned (.tuple #[.int .i64 (ax - ox), .int .i64 (ay - oy)]) ∧ Gr w w') := way_any ox oy ax ay h1 h2 h3 h4
  have W2 : Hid (∀ w, Calls Tryz.prog 149 #[pt ox oy, pt bx by_] w fun e w' => e = .returned (.tuple #[.int .i64 (bx - ox), .int .i64 (by_ - oy)]) ∧ Gr w w') := way_any ox oy bx by_ h1 h2 h5 h6
  clear h1 h2 h3 h4 h5 h6
  generalize ax - ox = AX at *
  generalize ay - oy = AY at *
  generalize bx - ox = BX at *
  generalize by_ - oy = BY at *
  go_enter Tryz.func152, Tryz.ntmps152
  go_wp2_with fail
  refine (W1.out _).mono ?_
  rintro e w1 ⟨rfl, g1⟩
  obtain ⟨c1, f1⟩ := g1.cells
  have z1 := g1.size
  simp only [World.size_alloc] at z1
  go_wp2_with fail
  refine (W2.out _).mono ?_
  rintro e w2 ⟨rfl, g2⟩
  go_wp2
  go_ret
  refine ⟨?_, (((((Gr.refl _).alloc _).alloc _).alloc _).trans g1).trans g2⟩
  show Ending.returned (.int .i64 (wrap64 (wrap64 (AX * BX) + wrap64 (AY * BY)))) = _
  rw [w64_add2]

theorem dist2_any (ax ay bx by_ : Int) (h1 : in32 ax) (h2 : in32 ay) (h3 : in32 bx) (h4 : in32 by_) (w : World) :
    Calls Tryz.prog 153 #[pt ax ay, pt bx by_] w fun e w' => e = .returned (.int .i64 (wrap64 ((bx - ax) * (bx - ax) + (by_ - ay) * (by_ - ay)))) ∧ Gr w w' := by
  have D : Hid (∀ w, Calls Tryz.prog 152 #[pt ax ay, pt bx by_, pt bx by_] w fun e w' => e = .returned (.int .i64 (wrap64 ((bx - ax) * (bx - ax) + (by_ - ay) * (by_ - ay)))) ∧ Gr w w') := dot_any ax ay bx by_ bx by_ h1 h2 h3 h4 h3 h4
  clear h1 h2 h3 h4
  generalize wrap64 ((bx - ax) * (bx - ax) + (by_ - ay) * (by_ - ay)) = R at *
  go_enter Tryz.func153, Tryz.ntmps153
  go_wp2_with fail
  refine (D.out _).mono ?_
  rintro e w1 ⟨rfl, g1⟩
  go_wp2
  go_ret
  exact ⟨rfl, (((Gr.refl _).alloc _).alloc _).trans g1⟩

def rightB (a b c d : Int) : Bool := decide (a ≤ c) && decide (b ≤ d)
set_option maxHeartbeats 1000000 in
theorem right_any (a b c d : Int) (w : World) :
    Calls Tryz.prog 82 #[bx a b c d] w fun e w' => e = .returned (.bool (rightB a b c d)) ∧ Gr w w' := by
  by_cases h : a ≤ c
  · have e : rightB a b c d = decide (b ≤ d) := by unfold rightB; simp [h]
    rw [e]; clear e
    go_enter Tryz.func82, Tryz.ntmps82
    go_wp2
    go_ret
    exact ⟨rfl, (Gr.refl _).alloc _⟩
  · have e : rightB a b c d = false := by unfold rightB; simp only [h, decide_false, Bool.false_and]
    rw [e]; clear e
    go_enter Tryz.func82, Tryz.ntmps82
    go_wp2
    go_ret
    exact ⟨rfl, (Gr.refl _).alloc _⟩

def hasB (a b c d x y : Int) : Bool := rightB a b x y && rightB x y c d
set_option maxHeartbeats 1000000 in
theorem has_any (a b c d x y : Int) (w : World) :
    Calls Tryz.prog 139 #[bx a b c d, pt x y] w fun e w' => e = .returned (.bool (hasB a b c d x y)) ∧ Gr w w' := by
  cases h : rightB a b x y with
  | true =>
    have L : Hid (∀ w, Calls Tryz.prog 82 #[bx a b x y] w fun e w' => e = .returned (.bool true) ∧ Gr w w') := fun w => by rw [← h]; exact right_any a b x y w
    have e : hasB a b c d x y = rightB x y c d := by unfold hasB; rw [h]; rfl
    rw [e]
    clear h e
    go_enter Tryz.func139, Tryz.ntmps139
    go_wp2_with fail
    refine (L.out _).mono ?_
    rintro e w1 ⟨rfl, g1⟩
    obtain ⟨c1, f1⟩ := g1.cells
    go_wp2_with fail
    refine (right_any x y c d _).mono ?_
    rintro e w2 ⟨rfl, g2⟩
    go_wp2
    go_ret
    exact ⟨rfl, ((((Gr.refl _).alloc _).alloc _).trans g1).trans g2⟩
  | false =>
    have L : Hid (∀ w, Calls Tryz.prog 82 #[bx a b x y] w fun e w' => e = .returned (.bool false) ∧ Gr w w') := fun w => by rw [← h]; exact right_any a b x y w
    have e : hasB a b c d x y = false := by unfold hasB; rw [h]; rfl
    rw [e]
    clear h e
    go_enter Tryz.func139, Tryz.ntmps139
    go_wp2_with fail
    refine (L.out _).mono ?_
    rintro e w1 ⟨rfl, g1⟩
    go_wp2
    go_ret
    exact ⟨rfl, (((Gr.refl _).alloc _).alloc _).trans g1⟩

def minI (a b : Int) : Int := if a ≤ b then a else b
def maxI (a b : Int) : Int := if a ≤ b then b else a
set_option maxHeartbeats 1000000 in
theorem lower_any (ax ay bx by_ : Int) (w : World) :
    Calls Tryz.prog 147 #[pt ax ay, pt bx by_] w fun e w' => e = .returned (pt (minI ax bx) (minI ay by_)) ∧ Gr w w' := by
  go_enter Tryz.func147, Tryz.ntmps147
  go_wp2
  all_goals
    refine bodyPost_ret (v := pt (minI ax bx) (minI ay by_)) (by simp [results, Tryz.results147, go_sem]; unfold minI; constructor <;> split <;> omega) rfl ⟨rfl, ?_⟩
    exact (((Gr.refl _).alloc _).alloc _).alloc _

set_option maxHeartbeats 1000000 in
theorem upper_any (ax ay bx by_ : Int) (w : World) :
    Calls Tryz.prog 148 #[pt ax ay, pt bx by_] w fun e w' => e = .returned (pt (maxI ax bx) (maxI ay by_)) ∧ Gr w w' := by
  go_enter Tryz.func148, Tryz.ntmps148
  go_wp2
  all_goals
    refine bodyPost_ret (v := pt (maxI ax bx) (maxI ay by_)) (by simp [results, Tryz.results148, go_sem]; unfold maxI; constructor <;> split <;> omega) rfl ⟨rfl, ?_⟩
    exact (((Gr.refl _).alloc _).alloc _).alloc _
end
section
open Go.RowKit Go.Sort

theorem below_cell {w w' : World} {a : Addr} {v : Value} (h : w.cell? a = some v) (g : Below w.heap.size w w') : w'.cell? a = some v :=
  (g.cell (World.block_lt_of_cell? w a h)).trans h

theorem Gr.grownBy {w w' : World} (h : Gr w w') : w.grownBy w' none :=
  ⟨h.below.os, h.below.tape, h.below.output, h.below.size, fun k hk _ => h.below.block k hk⟩
theorem own_gr {w w' : World} {base e k : Nat} {v : Value} {xs : List Value} (h : w.ownsRow base e 1 v k xs) (g : Gr w w') : w'.ownsRow base e 1 v k xs :=
  h.kept g.grownBy (by cases v.ownBlock <;> simp)

theorem below2 (w : World) (a b : Obj) : Below w.heap.size w ((w.alloc a).alloc b) := (((Gr.refl _).alloc _).alloc _).below
theorem below3 (w : World) (a b c : Obj) : Below w.heap.size w (((w.alloc a).alloc b).alloc c) := ((((Gr.refl _).alloc _).alloc _).alloc _).below
theorem below4 (w : World) (a b c d : Obj) : Below w.heap.size w ((((w.alloc a).alloc b).alloc c).alloc d) := (((((Gr.refl _).alloc _).alloc _).alloc _).alloc _).below

theorem regr1 {W w1 : World} {a : Addr} {v : Value} (h : ∀ n os, (grow (W.drewN n) os).cell? a = some v) (g : Gr W w1) : ∀ n os, (grow (w1.drewN n) os).cell? a = some v := by
  obtain ⟨q, o, rfl⟩ := g
  intro n os
  have e : grow ((grow (W.drewN q) o).drewN n) os = grow (W.drewN (q + n)) (o ++ os) := by
    show grow (grow ((W.drewN q).drewN n) o) os = _
    rw [grow_grow, World.drewN_drewN]
  rw [e]; exact h _ _
theorem at0 {W : World} {a : Addr} {v : Value} (h : ∀ n os, (grow (W.drewN n) os).cell? a = some v) : W.cell? a = some v := by simpa using h 0 #[]
theorem own_shape {w : World} {base e k : Nat} {v : Value} {xs : List Value} (h : w.ownsRow base e 1 v (k + 1) xs) : ∃ g cap, v = .slice (some ⟨g, 0, none⟩) (k + 1) cap := by
  rcases h.2 with ⟨_, hn⟩ | ⟨g, cap, cur, rfl, _⟩
  · omega
  · exact ⟨g, cap, rfl⟩


/-- Four cells, and that nothing below K has turned. -/
abbrev S4 (a0 a1 a2 a3 : Addr) (x0 x1 x2 x3 : Value) (K : Nat) (W : World) (w : World) : Prop :=
  w.cell? a0 = some x0 ∧ w.cell? a1 = some x1 ∧ w.cell? a2 = some x2 ∧ w.cell? a3 = some x3 ∧ Below K W w
theorem S4.call {a0 a1 a2 a3 : Addr} {x0 x1 x2 x3 : Value} {K : Nat} {W w w' : World} (h : S4 a0 a1 a2 a3 x0 x1 x2 x3 K W w) (hK : K ≤ W.heap.size) (g : Below w.heap.size w w') : S4 a0 a1 a2 a3 x0 x1 x2 x3 K W w' :=
  ⟨below_cell h.1 g, below_cell h.2.1 g, below_cell h.2.2.1 g, below_cell h.2.2.2.1 g, h.2.2.2.2.trans (g.mono (Nat.le_trans hK h.2.2.2.2.size))⟩
theorem S4.set {a0 a1 a2 a3 : Addr} {x0 x1 x2 x3 : Value} {K : Nat} {W w : World} (h : S4 a0 a1 a2 a3 x0 x1 x2 x3 K W w) {p : Addr} (hp : K ≤ p.block) (h0 : a0.block < K) (h1 : a1.block < K) (h2 : a2.block < K) (h3 : a3.block < K) (z : Value) : S4 a0 a1 a2 a3 x0 x1 x2 x3 K W (w.setCell p z) :=
  have f : ∀ a : Addr, a.block < K → (w.setCell p z).cell? a = w.cell? a := fun a ha => World.cell?_setCell_far w p a z (by omega)
  ⟨(f a0 h0).trans h.1, (f a1 h1).trans h.2.1, (f a2 h2).trans h.2.2.1, (f a3 h3).trans h.2.2.2.1, h.2.2.2.2.setCell hp z⟩
end
end Go.Proofs.YtgcofpfjdplopaaGreat
