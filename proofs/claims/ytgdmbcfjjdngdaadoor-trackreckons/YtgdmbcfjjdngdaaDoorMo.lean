/- Move of a book, of an object that is not there. -/
import Derived.Test.YtgdmbcfjjdngdaaDoorPb
set_option linter.unusedSimpArgs false
set_option linter.unusedVariables false
namespace Go.Proofs.YtgdmbcfjjdngdaaDoor
open Go.RowKit Go.Sort Go.Shelf

section
variable {B : Nat} {w W w' w'' : World} {b : Nat} {s : BS} {M : Nat → Mv} {id num tim x y : Int} {sp : Nat} {e : Ending}
theorem TM.NewRow.gr {v v' : Value} (h : TM.NewRow W v v') (g : w.heap.size ≤ W.heap.size) : TM.NewRow w v v' := fun k hk => by
  rcases h k hk with e | e
  · exact .inl e
  · exact .inr (Nat.le_trans g e)
theorem PutR.of_gr (g : Gr w W) (h : PutR B b s id num tim x y sp W e w') : PutR B b s id num tim x y sp w e w' := by
  have hs := g.size
  rcases h with ⟨h1, h2, h3⟩ | ⟨h1, h2, i, k, nb, v', m, h3, h4, h5, h6, h7, h8, h9, h10, h11, h12⟩
  · exact .inl ⟨h1, h2, g.trans h3⟩
  · exact .inr ⟨h1, h2, i, k, nb, v', m, h3, Nat.le_trans hs h4, Nat.le_trans hs h5, h6.gr hs, Nat.le_trans hs h7, Nat.le_trans hs h8, h9, h10, h11, (Chg.of_gr g).trans h12⟩
theorem BookIs.on {ts : List TypeId} {p : Nat → Prop} (h : BookIs B w b s) (c : Chg p w w') (q : On ts p w) (h1 : 50 ∉ ts) (h2 : 112 ∉ ts) (h3 : 131 ∉ ts) (h4 : 134 ∉ ts) (h5 : 115 ∉ ts) (h6 : 124 ∉ ts) (h7 : 123 ∉ ts) (h8 : 118 ∉ ts) (h9 : 22 ∉ ts) : BookIs B w' b s := by
  obtain ⟨PW, hP⟩ := h.pl
  exact ⟨h.blk.chg c (q.ne h.blk h1), h.ob.on c q h2 h3 h4, h.fe.on c q h5 h6 h7, ⟨PW, hP.on c q h8 h9⟩, h.b0⟩
theorem MvIs.on {ts : List TypeId} {p : Nat → Prop} {k : Nat} {m : Mv} (h : MvIs w k id m) (c : Chg p w w') (q : On ts p w) (h1 : 93 ∉ ts) (h8 : 118 ∉ ts) (h9 : 22 ∉ ts) : MvIs w' k id m := by
  obtain ⟨PW, hP⟩ := h.set
  exact ⟨h.blk.chg c (q.ne h.blk h1), ⟨PW, hP.on c q h8 h9⟩⟩
theorem Gr.pt {r : Nat} (g : Gr w w') (hr : w.heap.size ≤ r) (u v : Value) : Gr w ((w'.setCell ⟨r, 0, none⟩ u).setCell ⟨r, 1, none⟩ v) := (g.setCell (p := ⟨r, 0, none⟩) hr u).setCell (p := ⟨r, 1, none⟩) hr v
theorem PutR.pt {r : Nat} {l : List Value} (h : PutR B b s id num tim x y sp w e w') (k : Bk w' r 24 l) (hr : w.heap.size ≤ r) (u v : Value) : PutR B b s id num tim x y sp w e ((w'.setCell ⟨r, 0, none⟩ u).setCell ⟨r, 1, none⟩ v) := by
  have C : Chg (fun j => j = r) w' ((w'.setCell ⟨r, 0, none⟩ u).setCell ⟨r, 1, none⟩ v) := (Chg.set (p := fun j => j = r) w' (a := ⟨r, 0, none⟩) rfl u).trans (Chg.set (p := fun j => j = r) _ (a := ⟨r, 1, none⟩) rfl v)
  have q := on_one k
  rcases h with ⟨h1, h2, h3⟩ | ⟨h1, h2, i, j, nb, v', m, h3, h4, h5, h6, h7, h8, h9, h10, h11, h12⟩
  · exact .inl ⟨h1, h2, h3.pt hr u v⟩
  · exact .inr ⟨h1, h2, i, j, nb, v', m, h3, h4, h5, h6, h7, h8, h9.on C q (by decide) (by decide) (by decide) (by decide) (by decide) (by decide) (by decide) (by decide) (by decide), h10.on C q (by decide) (by decide) (by decide), h11, h12.next C (fun j hj e => by omega)⟩
theorem PutR.size (h : PutR B b s id num tim x y sp w e w') : Chg (TM.tP s.o s.vO) w w' := by
  rcases h with ⟨h1, h2, h3⟩ | ⟨h1, h2, i, j, nb, v', m, h3, h4, h5, h6, h7, h8, h9, h10, h11, h12⟩
  · exact Chg.of_gr h3
  · exact h12
theorem PutR.code (h : PutR B b s id num tim x y sp w e w') : ∃ c : Int, e = .returned (.int .i64 c) := by
  rcases h with ⟨h1, h2, h3⟩ | ⟨h1, h2, _⟩
  · exact ⟨5, h2⟩
  · exact ⟨0, h2⟩
/-- What Move answers and leaves, of an object that is not there. -/
def MoveR (B b : Nat) (s : BS) (id num tim x y : Int) (w : World) (e : Ending) (w' : World) : Prop := ∃ c : Int, e = .returned (.tuple #[pt 0 0, .bool false, .int .i64 c]) ∧ PutR B b s id num tim x y 0 w (.returned (.int .i64 c)) w'
set_option maxHeartbeats 1000000 in
theorem move_new (h : BookIs B w b s) (hB : B ≤ w.heap.size) (hn : ∀ x ∈ s.LO, x.1 ≠ id) (num tim x y : Int) : Calls Tryd.prog 26 #[pT b, .int .u32 id, .int .u32 num, .int .u32 tim, pt x y] w (MoveR B b s id num tim x y w) := by
  have k1 := Bk.new w 24 [.int .i32 x, .int .i32 y]
  have g1 := (Gr.refl w).alloc (.cells [.int .i32 x, .int .i32 y].toArray 24)
  have k2 := Bk.new (w.alloc (.cells [.int .i32 x, .int .i32 y].toArray 24)) 24 [.int .i32 0, .int .i32 0]
  have g2 := g1.alloc (.cells [.int .i32 0, .int .i32 0].toArray 24)
  have k1' := k1.alloc (.cells [.int .i32 0, .int .i32 0].toArray 24)
  rw [World.size_alloc] at k2
  have H := h.gr g2
  clear h k1 g1
  go_enter Tryd.func26, Tryd.ntmps26
  go_upto_region 1 with fail
  obtain ⟨q, hqe, hq⟩ : ∃ b, b = w.heap.size ∧ w.heap.size ≤ b := ⟨_, rfl, Nat.le_refl _⟩
  obtain ⟨r, hre, hr⟩ : ∃ b, b = w.heap.size + 1 ∧ w.heap.size ≤ b := ⟨_, rfl, by omega⟩
  rw [← hre] at k2 ⊢
  rw [← hqe] at k1' ⊢
  clear hqe hre
  generalize World.alloc _ _ = W at *
  have A := hid0 (absent_book H)
  have MV := hid0 (mover_any H id)
  have PU := hid0 (put_nil H (Nat.le_trans hB g2.size) hn num tim x y 0)
  have q0 := k1'.at 0
  have q1 := k1'.at 1
  simp only [List.getElem?_cons_zero, List.getElem?_cons_succ] at q0 q1
  have G2 := hid0 g2
  have hon := hid0 (H.ob.ons.ne k2 (by decide))
  clear g2 H k1'
  go_wp2_with (first
    | (go_at_call 45; refine A.out.mono ?_; rintro e w1 ⟨rfl, hw⟩; cases hw)
    | fail)
  refine MV.out.mono ?_
  rintro e w1 ⟨i, hc, hcase, hw⟩
  cases hw
  obtain rfl : e = .returned (.tuple #[TM.zV, .bool false]) := by
    rcases hcase with ⟨ht, _⟩ | ⟨_, he⟩
    · obtain ⟨z, hz, ez⟩ := there_yes ht
      exact absurd ez (hn z (List.mem_of_getElem? hz))
    · exact he
  clear hcase hc MV A
  go_wp2_with fail
  refine PU.out.mono ?_
  intro e w3 hP
  obtain ⟨c, rfl⟩ := hP.code
  have kr := k2.chg hP.size hon.out
  have f0 := kr.frozen 0
  have f1 := kr.frozen 1
  have p0 := kr.at 0
  have p1 := kr.at 1
  simp only [List.getElem?_cons_zero, List.getElem?_cons_succ] at p0 p1
  have PX := hid0 ((hP.of_gr G2.out).pt kr hr (.int .i32 0) (.int .i32 0))
  have kx := (kr.set 0 (.int .i32 0)).set 1 (.int .i32 0)
  clear hP PU k2 kr
  go_wp2
  generalize World.setCell (World.setCell _ _ _) _ _ = X at *
  obtain ⟨z0, z1⟩ := kx.two
  refine bodyPost_ret (v := .tuple #[pt 0 0, .bool false, .int .i64 c]) (by simp [results, Tryd.results26, go_sem, z0, z1]) rfl ⟨c, rfl, PX.out⟩
end
end Go.Proofs.YtgdmbcfjjdngdaaDoor
