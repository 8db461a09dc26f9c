/- inside's past, and what hangs on it: Crossings, Winding, Covers. -/
import Derived.Test.YtpdhknclhpifkabTt
namespace Go.Proofs.Ytpdhknclhpifkab
open Go.RowKit Go.Shelf Go.Sort
attribute [local go_sem] Oper.semAt_some wide_fn
attribute [local simp] wide_fn

def turnP (o a b : Int × Int) : Int := turnI o.1 o.2 a.1 a.2 b.1 b.2
def pastI (p a b : Int × Int) : Int := if a.2 ≤ p.2 ∧ p.2 < b.2 ∧ turnP a b p = 1 then 1 else if b.2 ≤ p.2 ∧ p.2 < a.2 ∧ turnP a b p = -1 then -1 else 0
theorem pastI_bd (p a b : Int × Int) : pastI p a b = 1 ∨ pastI p a b = -1 ∨ pastI p a b = 0 := by unfold pastI; split; simp; split <;> simp
theorem turnP_cases (o a b : Int × Int) : turnP o a b = 1 ∨ turnP o a b = -1 ∨ turnP o a b = 0 := by
  have := turnI_bd o.1 o.2 a.1 a.2 b.1 b.2
  unfold turnP
  omega

set_option maxRecDepth 100000 in
set_option maxHeartbeats 4000000 in
theorem past_any (p a b : Int × Int) (hp : P32 p) (ha : P32 a) (hb : P32 b) (w : World) :
    Calls Try.prog 22 #[pt a.1 a.2, pt b.1 b.2, pt p.1 p.2] w fun e w' => e = .returned (.int .i64 (pastI p a b)) ∧ Gr w w' := by
  have C : Hid (∀ w, Calls Try.prog 35 #[pt a.1 a.2, pt b.1 b.2, pt p.1 p.2] w fun e w' => e = .returned (.int .i64 (turnP a b p)) ∧ Gr w w') := fun w => turn_any _ _ _ _ _ _ ha.1 ha.2 hb.1 hb.2 hp.1 hp.2 w
  have e0 : Hid (pastI p a b = if a.2 ≤ p.2 ∧ p.2 < b.2 ∧ turnP a b p = 1 then 1 else if b.2 ≤ p.2 ∧ p.2 < a.2 ∧ turnP a b p = -1 then -1 else 0) := (rfl : _ = _)
  have ht := turnP_cases a b p
  obtain ⟨ax, ay⟩ := a
  obtain ⟨bx, by_⟩ := b
  obtain ⟨px, py⟩ := p
  generalize turnP (ax, ay) (bx, by_) (px, py) = t at *
  generalize pastI (px, py) (ax, ay) (bx, by_) = r at *
  clear hp ha hb
  have kA : PtB (((w.alloc (.cells #[.int .i32 ax, .int .i32 ay] 25)).alloc (.cells #[.int .i32 bx, .int .i32 by_] 25)).alloc (.cells #[.int .i32 px, .int .i32 py] 25)) w.heap.size (ax, ay) := ((PtB.new w (ax, ay)).alloc _).alloc _
  have kB : PtB (((w.alloc (.cells #[.int .i32 ax, .int .i32 ay] 25)).alloc (.cells #[.int .i32 bx, .int .i32 by_] 25)).alloc (.cells #[.int .i32 px, .int .i32 py] 25)) (w.heap.size + 1) (bx, by_) := by
    have := (PtB.new (w.alloc (.cells #[.int .i32 ax, .int .i32 ay] 25)) (bx, by_)).alloc (.cells #[.int .i32 px, .int .i32 py] 25)
    rwa [World.size_alloc] at this
  have kP : PtB (((w.alloc (.cells #[.int .i32 ax, .int .i32 ay] 25)).alloc (.cells #[.int .i32 bx, .int .i32 by_] 25)).alloc (.cells #[.int .i32 px, .int .i32 py] 25)) (w.heap.size + 1 + 1) (px, py) := by
    have := PtB.new ((w.alloc (.cells #[.int .i32 ax, .int .i32 ay] 25)).alloc (.cells #[.int .i32 bx, .int .i32 by_] 25)) (px, py)
    rwa [World.size_alloc, World.size_alloc] at this
  have hG : Gr w (((w.alloc (.cells #[.int .i32 ax, .int .i32 ay] 25)).alloc (.cells #[.int .i32 bx, .int .i32 by_] 25)).alloc (.cells #[.int .i32 px, .int .i32 py] 25)) := (((Gr.refl _).alloc _).alloc _).alloc _
  by_cases h1 : ay ≤ py
  · have h4 : ¬ py < ay := by omega
    by_cases h2 : py < by_
    · have h3 : ¬ by_ ≤ py := by omega
      rcases ht with rfl | rfl | rfl
      · have e1 : r = 1 := by have := e0.out; simpa [h1, h2, h3, h4] using this
        subst e1
        go_enter Try.func22, Try.ntmps22
        go_wp2_with (go_at_call 35; refine (C.out _).mono ?_; rintro e w' ⟨rfl, g⟩; have a1 := (kA.gr g).c1; have b1 := (kB.gr g).c1; have p1 := (kP.gr g).c1)
        go_ret
        exact ⟨rfl, hG.trans g⟩
      · have e1 : r = 0 := by have := e0.out; simpa [h1, h2, h3, h4] using this
        subst e1
        go_enter Try.func22, Try.ntmps22
        go_wp2_with (go_at_call 35; refine (C.out _).mono ?_; rintro e w' ⟨rfl, g⟩; have a1 := (kA.gr g).c1; have b1 := (kB.gr g).c1; have p1 := (kP.gr g).c1)
        go_ret
        exact ⟨rfl, hG.trans g⟩
      · have e1 : r = 0 := by have := e0.out; simpa [h1, h2, h3, h4] using this
        subst e1
        go_enter Try.func22, Try.ntmps22
        go_wp2_with (go_at_call 35; refine (C.out _).mono ?_; rintro e w' ⟨rfl, g⟩; have a1 := (kA.gr g).c1; have b1 := (kB.gr g).c1; have p1 := (kP.gr g).c1)
        go_ret
        exact ⟨rfl, hG.trans g⟩
    · have h3 : by_ ≤ py := by omega
      have e1 : r = 0 := by have := e0.out; simpa [h1, h2, h3, h4] using this
      subst e1
      go_enter Try.func22, Try.ntmps22
      go_wp2
      go_ret
      exact ⟨rfl, hG⟩
  · have h4 : py < ay := by omega
    by_cases h2 : py < by_
    · have h3 : ¬ by_ ≤ py := by omega
      have e1 : r = 0 := by have := e0.out; simpa [h1, h2, h3, h4] using this
      subst e1
      go_enter Try.func22, Try.ntmps22
      go_wp2
      go_ret
      exact ⟨rfl, hG⟩
    · have h3 : by_ ≤ py := by omega
      rcases ht with rfl | rfl | rfl
      · have e1 : r = 0 := by have := e0.out; simpa [h1, h2, h3, h4] using this
        subst e1
        go_enter Try.func22, Try.ntmps22
        go_wp2_with (go_at_call 35; refine (C.out _).mono ?_; rintro e w' ⟨rfl, g⟩)
        go_ret
        exact ⟨rfl, hG.trans g⟩
      · have e1 : r = -1 := by have := e0.out; simpa [h1, h2, h3, h4] using this
        subst e1
        go_enter Try.func22, Try.ntmps22
        go_wp2_with (go_at_call 35; refine (C.out _).mono ?_; rintro e w' ⟨rfl, g⟩)
        go_ret
        exact ⟨rfl, hG.trans g⟩
      · have e1 : r = 0 := by have := e0.out; simpa [h1, h2, h3, h4] using this
        subst e1
        go_enter Try.func22, Try.ntmps22
        go_wp2_with (go_at_call 35; refine (C.out _).mono ?_; rintro e w' ⟨rfl, g⟩)
        go_ret
        exact ⟨rfl, hG.trans g⟩
end Go.Proofs.Ytpdhknclhpifkab
