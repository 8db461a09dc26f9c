/- The reference's Ahead, the law's has, the argument's list. -/
import Derived.Test.YtaapdkjmlplhgaaNw
import Derived.Test.YtaapdkjmlplhgaaEq
set_option linter.unusedSimpArgs false
set_option linter.unusedVariables false
namespace Go.Proofs.Ytaapdkjmlplhgaa
open Go.RowKit Go.Sort Go.Shelf

theorem ahead_any (x y : Du) (w : World) : Calls Try.prog 15 #[dV x, dV y] w fun e w' => e = .returned (.bool (ltD x y)) ∧ Gr w w' := by
  obtain ⟨xa, xo, xf⟩ := x
  obtain ⟨ya, yo, yf⟩ := y
  have g := hid0 (((Gr.refl w).alloc (.cells #[.int .u32 xa, .int .u32 xo, .int .u32 xf] 32)).alloc (.cells #[.int .u32 ya, .int .u32 yo, .int .u32 yf] 32))
  by_cases h1 : xa = ya
  · subst h1
    by_cases h2 : xo = yo
    · subst h2
      have e : ltD (xa, xo, xf) (xa, xo, yf) = decide (xf < yf) := by simp [ltD]
      rw [e]
      clear e
      go_enter Try.func15, Try.ntmps15
      go_wp2
      go_ret
      exact ⟨rfl, g.out⟩
    · have e : ltD (xa, xo, xf) (xa, yo, yf) = decide (xo < yo) := by simp [ltD, h2]
      rw [e]
      clear e
      go_enter Try.func15, Try.ntmps15
      go_wp2
      go_ret
      exact ⟨rfl, g.out⟩
  · have e : ltD (xa, xo, xf) (ya, yo, yf) = decide (xa < ya) := by simp [ltD, h1]
    rw [e]
    clear e
    go_enter Try.func15, Try.ntmps15
    go_wp2
    go_ret
    exact ⟨rfl, g.out⟩
/-- A list of dues that came in. -/
def Pts (w : World) (ao : Option Addr) (l : List Du) : Prop := ∀ i, i < l.length → ∃ b off, ao = some ⟨b, off, none⟩ ∧ w.cell? ⟨b, off + i * 3, none⟩ = some (.int .u32 (nth l i).1) ∧ w.cell? ⟨b, off + i * 3 + 1, none⟩ = some (.int .u32 (nth l i).2.1) ∧ w.cell? ⟨b, off + i * 3 + 2, none⟩ = some (.int .u32 (nth l i).2.2)
theorem Pts.below {w w' : World} {ao : Option Addr} {l : List Du} (h : Pts w ao l) (g : Below w.heap.size w w') : Pts w' ao l := fun i hi => by
  obtain ⟨b, off, e, c0, c1, c2⟩ := h i hi
  exact ⟨b, off, e, below_cell c0 g, below_cell c1 g, below_cell c2 g⟩
theorem mem_take {l : List Du} {k : Nat} {x : Du} : x ∈ l.take k ↔ ∃ j, j < k ∧ j < l.length ∧ nth l j = x := by
  rw [mem_nth]
  constructor
  · rintro ⟨j, h1, h2⟩
    rw [List.length_take] at h1
    exact ⟨j, by omega, by omega, by rw [← nth_take l k j (by omega)]; exact h2⟩
  · rintro ⟨j, h1, h2, h3⟩
    exact ⟨j, by rw [List.length_take]; omega, by rw [nth_take l k j h1]; exact h3⟩
set_option maxHeartbeats 1000000 in
theorem has_any (ao : Option Addr) (cap : Nat) (l : List Du) (x : Du) (w : World) (hl : l.length ≤ 1024) (hP : Pts w ao l) (hx : x ∈ l) :
    Calls Try.prog 16 #[.slice ao l.length cap, dV x] w fun e w' => e = .returned (.bool true) ∧ Gr w w' := by
  obtain ⟨xa, xo, xf⟩ := x
  have k3 := Bk.new w 32 [.int .u32 xa, .int .u32 xo, .int .u32 xf]
  have g := (Gr.refl w).alloc (.cells #[.int .u32 xa, .int .u32 xo, .int .u32 xf] 32)
  have HP := hid0 (hP.below g.below)
  have HX := hid0 hx
  clear hP hx
  go_enter Try.func16, Try.ntmps16
  go_upto_region 1 with fail
  generalize w.alloc _ = W at *
  obtain ⟨b3, e3⟩ : ∃ b3, b3 = w.heap.size := ⟨_, rfl⟩
  rw [← e3] at k3 ⊢
  clear e3
  have K3 := hid0 k3
  have G0 := hid0 g
  clear k3 g
  go_wp2
  go_loopw [5] (fun v wr => ∃ k : Nat, k ≤ l.length ∧ v = .int .i64 k ∧ Hid (Gr W wr) ∧ Hid ((xa, xo, xf) ∉ l.take k)) (fun v _ => l.length - (intOf v).toNat)
  case atStart => exact ⟨0, Nat.zero_le _, rfl, Gr.refl _, by show _ ∉ _; simp⟩
  case round =>
    obtain ⟨k, hk, rfl, hG, hN⟩ := hrel
    by_cases hlt : k < l.length
    · have hlt' : (k : Int) < (l.length : Int) := by omega
      obtain ⟨b, off, rfl, p0, p1, p2⟩ := HP.out k hlt
      have k3 := K3.out.gr hG.out
      replace p0 := fun n => below_cell (below_cell p0 hG.out.below) ((Gr.refl wr).drewN n).below
      replace p1 := fun n => below_cell (below_cell p1 hG.out.below) ((Gr.refl wr).drewN n).below
      replace p2 := fun n => below_cell (below_cell p2 hG.out.below) ((Gr.refl wr).drewN n).below
      have q0 := fun n => below_cell (k3.at 0) ((Gr.refl wr).drewN n).below
      have q1 := fun n => below_cell (k3.at 1) ((Gr.refl wr).drewN n).below
      have q2 := fun n => below_cell (k3.at 2) ((Gr.refl wr).drewN n).below
      have hT := (mem_take (l := l) (k := k + 1) (x := (xa, xo, xf)))
      have EQ := run_eqD (nth l k) (xa, xo, xf)
      by_cases he : nth l k = (xa, xo, xf)
      · rw [he] at p0 p1 p2
        rw [he] at EQ
        simp only [dV, decide_true] at EQ
        clear hT k3 he
        go_wp2_with fail
        go_quiet (fail)
        have G2 := hid0 ((G0.out.trans hG.out).drewN nq)
        clear p0 p1 p2 q0 q1 q2 EQ
        go_wp2
        go_ret
        exact ⟨rfl, G2.out⟩
      · have HN2 : Hid ((xa, xo, xf) ∉ l.take (k + 1)) := fun h => by
          obtain ⟨j, h1, h2, h3⟩ := hT.1 h
          by_cases e : j = k
          · subst e; exact he h3
          · exact hN.out (mem_take.2 ⟨j, by omega, h2, h3⟩)
        rw [decide_eq_false he] at EQ
        generalize nth l k = y at *
        obtain ⟨ya, yo, yf⟩ := y
        dsimp only [dV] at EQ p0 p1 p2
        clear hT k3 he hN
        go_wp2_with fail
        go_quiet (fail)
        have G2 := hid0 (hG.out.drewN nq)
        clear p0 p1 p2 q0 q1 q2 EQ
        go_wp2
        go_roundw
        case rel => exact ⟨k + 1, by omega, by go_num, G2, HN2⟩
        case measure => simp [intOf]; omega
    · have ek : k = l.length := by omega
      exfalso
      have := hN.out
      rw [ek, List.take_length] at this
      exact this HX.out
end Go.Proofs.Ytaapdkjmlplhgaa
