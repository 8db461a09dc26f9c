/- CellLines: the law's walk. -/
import Derived.Test.YtmoddfikhipagaaRl
import Derived.Test.YtmoddfikhipagaaLv
set_option linter.unusedSimpArgs false
set_option linter.unusedVariables false
namespace Go.Proofs.Ytmoddfikhipagaa
open Go.RowKit Go.Sort

/-- The blocks of a row of one's own abide what only lays new ones. -/
theorem own_below {w w' : World} {base e size n : Nat} {v : Value} {xs : List Value} (h : w.ownsRow base e size v n xs) (g : Below w.heap.size w w') : w'.ownsRow base e size v n xs := by
  refine ⟨h.1, ?_⟩
  rcases h.2 with hn | ⟨gg, cap, cur, rfl, hb, hc, r⟩
  · exact .inl hn
  · exact .inr ⟨gg, cap, cur, rfl, hb, (g.block gg (Array.getElem?_eq_some_iff.1 hc).1).trans hc, r⟩
theorem Bk.below {W W' : World} {b : Nat} {t : TypeId} {l : List Value} (h : Bk W b t l) (g : Below W.heap.size W W') : Bk W' b t l := h.mono g h.lt

set_option maxRecDepth 20000 in
set_option maxHeartbeats 8000000 in
theorem lines_walk (p q : C2) (s : Int) (w : World) :
    Calls Try.prog 4 #[cv p, cv q, .int .i64 s] w fun e w' => e = .returned (.bool true) ∧ Below w.heap.size w w' := by
  have LA := hid0 (line_any p q s)
  have RF := hid0 (rfirst_any p q s)
  have FL := hid0 (fun w bs bp bq => firstLine p q s w bs bp bq)
  have LV := hid0 lives_any
  have hM : ((lineL p q s).take 401).length ≤ 401 := by rw [List.length_take]; omega
  generalize (lineL p q s).take 401 = M at *
  have SA : Hid (∀ ao bo ca cb w, Pts w ao M → Pts w bo M → Calls Try.prog 15 #[.slice ao M.length ca, .slice bo M.length cb] w fun e w' => e = .returned (.bool true) ∧ Gr w w') := fun ao bo ca cb w h1 h2 => by
    have := same_any ao bo ca cb M M w (by omega) h1 h2
    rw [decide_eq_true rfl] at this
    exact this
  have b3 := (Bk.new w 23 [.int .i32 p.1, .int .i32 p.2]).alloc (.cells #[.int .i32 q.1, .int .i32 q.2] 23)
  have b4 := Bk.new (w.alloc (.cells #[.int .i32 p.1, .int .i32 p.2] 23)) 23 [.int .i32 q.1, .int .i32 q.2]
  have g0 : Gr w ((w.alloc (.cells #[.int .i32 p.1, .int .i32 p.2] 23)).alloc (.cells #[.int .i32 q.1, .int .i32 q.2] 23)) := ((Gr.refl _).alloc _).alloc _
  rw [World.size_alloc] at b4
  go_enter Try.func4, Try.ntmps4
  go_upto_region 1 with fail
  generalize (w.alloc (.cells #[.int .i32 p.1, .int .i32 p.2] 23)).alloc (.cells #[.int .i32 q.1, .int .i32 q.2] 23) = W at *
  obtain ⟨p0, p1⟩ := b3.two
  obtain ⟨q0, q1⟩ := b4.two
  go_upto_region 2 with (go_at_call 18; refine (LA.out _).mono ?_; rintro e w1 ⟨rfl, c1, c2, c3, g1⟩; clear LA)
  obtain ⟨p0', p1'⟩ := (b3.gr g1).two
  obtain ⟨q0', q1'⟩ := (b4.gr g1).two
  go_upto_region 3 with (go_at_call 19; refine (RF.out _).mono ?_; rintro e w2 ⟨v2, rfl, o2, h2⟩; clear RF)
  clear p0 p1 q0 q1 p0' p1' q0' q1'
  obtain ⟨ao2, cap2, rfl, P2, _⟩ := Pts.of_own o2
  replace c1 := c1.below h2
  replace c2 := c2.below h2
  replace c3 := c3.below h2
  have hb : Below w.heap.size w w2 := (g0.trans g1).below.trans (h2.mono (g0.trans g1).size)
  clear b3 b4 g0
  go_wp2_with (go_at_call 16; refine (FL.out _ _ _ _ c3 c1 c2).mono ?_; rintro e w3 ⟨v3, rfl, o3, h3⟩)
  obtain ⟨ao3, cap3, rfl, P3, _⟩ := Pts.of_own o3
  refine (SA.out ao3 ao2 cap3 cap2 w3 P3 (P2.mono h3)).mono ?_
  rintro e w4 ⟨rfl, g4⟩
  replace c1 := (c1.below h3).gr g4
  replace c2 := (c2.below h3).gr g4
  replace c3 := (c3.below h3).gr g4
  replace P2 := (P2.mono h3).mono g4.below
  have hb4 : Below w.heap.size w w4 := (hb.trans (h3.mono hb.size)).trans (g4.below.mono (hb.trans (h3.mono hb.size)).size)
  clear hb o3 P3 h3
  dsimp only
  go_wp2_with (go_at_call 16; refine (FL.out _ _ _ _ c3 c1 c2).mono ?_; rintro e w5 ⟨v5, rfl, o5, h5⟩)
  obtain ⟨ao5, cap5, rfl, P5, _⟩ := Pts.of_own o5
  refine (SA.out ao5 ao2 cap5 cap2 w5 P5 (P2.mono h5)).mono ?_
  rintro e w6 ⟨rfl, g6⟩
  have hb5 := hb4.trans (h5.mono hb4.size)
  have hb6 := hb5.trans (g6.below.mono hb5.size)
  clear c1 c2 c3 P2 hb4 hb5 o5 P5 h5 FL SA
  dsimp only
  go_wp2_with (go_at_call 17; refine (LV.out _).mono ?_; rintro e w7 ⟨rfl, h7⟩)
  go_ret
  exact ⟨rfl, hb6.trans (h7.mono hb6.size)⟩
end Go.Proofs.Ytmoddfikhipagaa
