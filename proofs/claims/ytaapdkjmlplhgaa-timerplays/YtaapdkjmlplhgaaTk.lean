/- Cut and Take. -/
import Derived.Test.YtaapdkjmlplhgaaDc
set_option linter.unusedSimpArgs false
set_option linter.unusedVariables false
namespace Go.Proofs.Ytaapdkjmlplhgaa
open Go.RowKit Go.Sort Go.Shelf Go.Maps

theorem cut_none {B : Nat} {w : World} {d h pb mb : Nat} {v : Value} {l : List Du} {m : Pf} {most : Nat} (D : Ds B w d h pb mb v l m most) (k : Int × Int) (hk : okK k) (hm : m k = none) :
    Calls Try.prog 22 #[.pointer (some ⟨d, 0, none⟩), .int .u32 k.1, .int .u32 k.2] w fun e w' => e = .returned (.bool false) ∧ w' = w := by
  have I := hid0 (absent_yes D)
  obtain ⟨c0, c1, c2, c3⟩ := D.cells
  have LK := look_map D.hv.map hk
  rw [hm] at LK
  obtain ⟨ko, kf⟩ := k
  simp only [ix, Option.getD_none, Option.isSome_none] at LK
  clear D
  go_enter Try.func22, Try.ntmps22
  go_wp2_with (go_at_call 31; refine I.out.mono ?_; rintro e w1 ⟨rfl, rfl⟩)
  go_ret
  exact ⟨rfl, rfl⟩
set_option maxHeartbeats 1000000 in
theorem cut_some {B : Nat} {w : World} {d h pb mb : Nat} {v : Value} {l : List Du} {m : Pf} {most : Nat} (D : Ds B w d h pb mb v l m most) (k : Int × Int) (hk : okK k) {j : Nat} (hm : m k = some j) :
    Calls Try.prog 22 #[.pointer (some ⟨d, 0, none⟩), .int .u32 k.1, .int .u32 k.2] w fun e w' => e = .returned (.bool true) ∧
      ∃ v' l' m', Ds B w' d h pb mb v' l' m' most ∧ (∀ y, y ∈ l' ↔ y ∈ l ∧ y.2 ≠ k) ∧ l'.length + 1 = l.length ∧ DCh h mb v v' w w' := by
  have I := hid0 (absent_yes D)
  obtain ⟨c0, c1, c2, c3⟩ := D.cells
  have LK := look_map D.hv.map hk
  obtain ⟨h1, h2⟩ := D.pd.at hm
  have DC := dcut_any D j h1
  rw [h2] at DC
  rw [hm] at LK
  replace DC := hid0 DC
  obtain ⟨ko, kf⟩ := k
  simp only [ix, Option.getD_some, Option.isSome_some] at LK
  clear D h1 h2 hm
  go_enter Try.func22, Try.ntmps22
  go_wp2_with (go_at_call 31; refine I.out.mono ?_; rintro e w1 ⟨rfl, rfl⟩)
  refine DC.out.mono ?_
  rintro e w2 ⟨rfl, F⟩
  replace F := hid0 F
  clear DC I c0 c1 c2 c3 LK
  go_wp2
  go_ret
  exact ⟨rfl, F.out⟩
theorem take_not {B : Nat} {w : World} {d h pb mb : Nat} {v : Value} {l : List Du} {m : Pf} {most : Nat} (D : Ds B w d h pb mb v l m most) (now : Int) (hr : rdy l now = false) :
    Calls Try.prog 14 #[.pointer (some ⟨d, 0, none⟩), .int .u32 now] w fun e w' => e = .returned (.tuple #[dV (0, 0, 0), .bool false]) ∧ Gr w w' := by
  have g := (Gr.refl w).alloc (.cells #[.int .u32 0, .int .u32 0, .int .u32 0] 32)
  have I := ready_yes (D.gr g) now
  rw [hr] at I
  replace I := hid0 I
  have k := Bk.new w 32 (dL (0, 0, 0))
  have g := hid0 g
  clear D hr
  dsimp only [dL] at k
  go_enter Try.func14, Try.ntmps14
  go_upto_region 1 with fail
  generalize w.alloc _ = W at *
  obtain ⟨b, eb⟩ : ∃ b, b = w.heap.size := ⟨_, rfl⟩
  rw [← eb] at k ⊢
  have hb : w.heap.size ≤ b := by omega
  clear eb
  go_wp2_with fail
  refine I.out.mono ?_
  rintro e w1 ⟨rfl, g1⟩
  replace k := k.gr g1
  have f0 := k.frozen 0
  have f1 := k.frozen 1
  have f2 := k.frozen 2
  have q0 := k.at 0
  have q1 := k.at 1
  have q2 := k.at 2
  simp only [List.getElem?_cons_zero, List.getElem?_cons_succ] at q0 q1 q2
  have k2 := hid0 (put3_bk (x := (0, 0, 0)) (y := (0, 0, 0)) k)
  have g2 := hid0 (put3_gr (i := 0) (x := (0, 0, 0)) (g.out.trans g1) hb)
  clear I g1 g k
  go_wp2
  dsimp only [put3, Nat.zero_add] at k2 g2
  generalize World.setCell _ _ _ = X at *
  have k3 := k2.out
  have q0 := k3.at 0
  have q1 := k3.at 1
  have q2 := k3.at 2
  simp only [List.getElem?_cons_zero, List.getElem?_cons_succ] at q0 q1 q2
  refine bodyPost_ret (v := .tuple #[dV (0, 0, 0), .bool false]) (by simp [results, Try.results14, go_sem, q0, q1, q2]) rfl ⟨rfl, g2.out⟩
set_option maxHeartbeats 1000000 in
theorem take_yes {B : Nat} {w : World} {d h pb mb : Nat} {v : Value} {l : List Du} {m : Pf} {most : Nat} (D : Ds B w d h pb mb v l m most) (now : Int) (hr : rdy l now = true) :
    Calls Try.prog 14 #[.pointer (some ⟨d, 0, none⟩), .int .u32 now] w fun e w' => e = .returned (.tuple #[dV (nth l 0), .bool true]) ∧
      ∃ v' l' m', Ds B w' d h pb mb v' l' m' most ∧ (∀ y, y ∈ l' ↔ y ∈ l ∧ y.2 ≠ (nth l 0).2) ∧ l'.length + 1 = l.length ∧ DCh h mb v v' w w' := by
  have h0 : 0 < l.length := by
    unfold rdy at hr
    simp only [Bool.and_eq_true, decide_eq_true_eq] at hr
    exact hr.1
  have hdw := D.due.lt
  have hhw := D.hv.heap.lt
  have hmw := D.hv.map.lt
  have hpw := D.hv.cap.lt
  have hgw := fun g e => (row_lt D.hv.row (g := g) e).1
  have g := (Gr.refl w).alloc (.cells #[.int .u32 0, .int .u32 0, .int .u32 0] 32)
  have D1 := D.gr g
  have I := ready_yes D1 now
  rw [hr] at I
  replace I := hid0 I
  have k := Bk.new w 32 (dL (0, 0, 0))
  have g := hid0 g
  clear D hr
  dsimp only [dL] at k
  generalize hx : nth l 0 = x
  replace hx := hid0 hx
  obtain ⟨xa, xo, xf⟩ := x
  go_enter Try.func14, Try.ntmps14
  go_upto_region 1 with fail
  generalize w.alloc _ = W at *
  obtain ⟨b, eb⟩ : ∃ b, b = w.heap.size := ⟨_, rfl⟩
  rw [← eb] at k ⊢
  have hb : w.heap.size ≤ b := by omega
  clear eb
  go_wp2_with fail
  refine I.out.mono ?_
  rintro e w1 ⟨rfl, g1⟩
  replace k := k.gr g1
  have D2 := D1.gr g1
  have DC := dcut_any D2 0 h0
  rw [hx.out] at DC
  replace DC := hid0 DC
  have g2 := hid0 (g.out.trans g1)
  clear I g1 g D1
  go_wp2_with fail
  refine DC.out.mono ?_
  rintro e w3 ⟨rfl, v', l', m', D3, M3, L3, C3⟩
  have k5 := k.chg C3.chg (by
    rintro (e | e | e)
    · omega
    · omega
    · have := hgw _ e; omega)
  have f0 := k5.frozen 0
  have f1 := k5.frozen 1
  have f2 := k5.frozen 2
  have q0 := k5.at 0
  have q1 := k5.at 1
  have q2 := k5.at 2
  simp only [List.getElem?_cons_zero, List.getElem?_cons_succ] at q0 q1 q2
  have k6 := hid0 (put3_bk (x := (xa, xo, xf)) (y := (0, 0, 0)) k5)
  have CW : Chg (fun j => j = h ∨ j = mb ∨ v.ownBlock = some j) w w3 := (Chg.of_gr g2.out).trans C3.chg
  have F : Hid (∃ v' l' m', Ds B (put3 w3 b 0 (xa, xo, xf)) d h pb mb v' l' m' most ∧ (∀ y, y ∈ l' ↔ y ∈ l ∧ y.2 ≠ (xo, xf)) ∧ l'.length + 1 = l.length ∧ DCh h mb v v' w (put3 w3 b 0 (xa, xo, xf))) := by
    refine ⟨v', l', m', D3.chg (put3_chg (p := fun j => j = b) (Chg.refl _ _) rfl) (by omega) (by omega) (by omega) (fun g' e e' => ?_) (by omega), M3, L3, CW.next (put3_chg (p := fun j => j = b) (Chg.refl _ _) rfl) (fun j hj e => by omega), fun g' e => ?_⟩
    · have hr := (row_lt D3.hv.row e).2.2
      rcases C3.new _ e with h | h
      · have := hgw _ h; omega
      · have := k.lt
        omega
    · rcases C3.new _ e with h | h
      · exact .inl h
      · right
        have := g2.out.size
        omega
  clear DC D2 D3 M3 L3 C3 k5 k CW g2
  go_wp2
  clear f0 f1 f2
  dsimp only [put3, Nat.zero_add] at k6 F
  generalize World.setCell _ _ _ = X at *
  have k3 := k6.out
  have q0 := k3.at 0
  have q1 := k3.at 1
  have q2 := k3.at 2
  simp only [List.getElem?_cons_zero, List.getElem?_cons_succ] at q0 q1 q2
  refine bodyPost_ret (v := .tuple #[dV (xa, xo, xf), .bool true]) (by simp [results, Try.results14, go_sem, q0, q1, q2]) rfl ⟨rfl, F.out⟩
end Go.Proofs.Ytaapdkjmlplhgaa
