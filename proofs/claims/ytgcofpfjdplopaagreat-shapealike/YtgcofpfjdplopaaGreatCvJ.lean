/- inside's past, and what hangs on it: Crossings, Winding, Covers. inside's Crossings, Winding, Covers. -/
import Derived.Test.YtgcofpfjdplopaaGreatTt
namespace Go.Proofs.YtgcofpfjdplopaaGreat
section
open Go.RowKit Go.Shelf Go.Sort
attribute [local go_sem] Oper.semAt_some wide_fn
attribute [local simp] wide_fn

def turnP (o a b : Int × Int) : Int := turnI o.1 o.2 a.1 a.2 b.1 b.2
def pastI (p a b : Int × Int) : Int := if a.2 ≤ p.2 ∧ p.2 < b.2 ∧ turnP a b p = 1 then 1 else if b.2 ≤ p.2 ∧ p.2 < a.2 ∧ turnP a b p = -1 then -1 else 0
theorem pastI_bd (p a b : Int × Int) : pastI p a b = 1 ∨ pastI p a b = -1 ∨ pastI p a b = 0 := by unfold pastI; split; simp; split <;> simp
theorem turnP_cases (o a b : Int × Int) : turnP o a b = 1 ∨ turnP o a b = -1 ∨ turnP o a b = 0 := by
  have := turnI_bd o.1 o.2 a.1 a.2 b.1 b.2
  unfold turnP
  omega

set_option maxRecDepth 100000 in
set_option maxHeartbeats 4000000 in
theorem past_any (p a b : Int × Int) (hp : P32 p) (ha : P32 a) (hb : P32 b) (w : World) :
    Calls Tryz.prog 133 #[pt a.1 a.2, pt b.1 b.2, pt p.1 p.2] w fun e w' => e = .returned (.int .i64 (pastI p a b)) ∧ Gr w w' := by
  have C : Hid (∀ w, Calls Tryz.prog 140 #[pt a.1 a.2, pt b.1 b.2, pt p.1 p.2] w fun e w' => e = .returned (.int .i64 (turnP a b p)) ∧ Gr w w') := fun w => turn_any _ _ _ _ _ _ ha.1 ha.2 hb.1 hb.2 hp.1 hp.2 w
  have e0 : Hid (pastI p a b = if a.2 ≤ p.2 ∧ p.2 < b.2 ∧ turnP a b p = 1 then 1 else if b.2 ≤ p.2 ∧ p.2 < a.2 ∧ turnP a b p = -1 then -1 else 0) := (rfl : _ = _)
  have ht := turnP_cases a b p
  obtain ⟨ax, ay⟩ := a
  obtain ⟨bx, by_⟩ := b
  obtain ⟨px, py⟩ := p
  generalize turnP (ax, ay) (bx, by_) (px, py) = t at *
  generalize pastI (px, py) (ax, ay) (bx, by_) = r at *
  clear hp ha hb
  have kA : PtB (((w.alloc (.cells #[.int .i32 ax, .int .i32 ay] 28)).alloc (.cells #[.int .i32 bx, .int .i32 by_] 28)).alloc (.cells #[.int .i32 px, .int .i32 py] 28)) w.heap.size (ax, ay) := ((PtB.new w (ax, ay)).alloc _).alloc _
  have kB : PtB (((w.alloc (.cells #[.int .i32 ax, .int .i32 ay] 28)).alloc (.cells #[.int .i32 bx, .int .i32 by_] 28)).alloc (.cells #[.int .i32 px, .int .i32 py] 28)) (w.heap.size + 1) (bx, by_) := by
    have := (PtB.new (w.alloc (.cells #[.int .i32 ax, .int .i32 ay] 28)) (bx, by_)).alloc (.cells #[.int .i32 px, .int .i32 py] 28)
    rwa [World.size_alloc] at this
  have kP : PtB (((w.alloc (.cells #[.int .i32 ax, .int .i32 ay] 28)).alloc (.cells #[.int .i32 bx, .int .i32 by_] 28)).alloc (.cells #[.int .i32 px, .int .i32 py] 28)) (w.heap.size + 1 + 1) (px, py) := by
    have := PtB.new ((w.alloc (.cells #[.int .i32 ax, .int .i32 ay] 28)).alloc (.cells #[.int .i32 bx, .int .i32 by_] 28)) (px, py)
    rwa [World.size_alloc, World.size_alloc] at this
  have hG : Gr w (((w.alloc (.cells #[.int .i32 ax, .int .i32 ay] 28)).alloc (.cells #[.int .i32 bx, .int .i32 by_] 28)).alloc (.cells #[.int .i32 px, .int .i32 py] 28)) := (((Gr.refl _).alloc _).alloc _).alloc _
  by_cases h1 : ay ≤ py
  · have h4 : ¬ py < ay := by omega
    by_cases h2 : py < by_
    · have h3 : ¬ by_ ≤ py := by omega
      rcases ht with rfl | rfl | rfl
      · have e1 : r = 1 := by have := e0.out; simpa [h1, h2, h3, h4] using this
        subst e1
        go_enter Tryz.func133, Tryz.ntmps133
        go_wp2_with (go_at_call 140; refine (C.out _).mono ?_; rintro e w' ⟨rfl, g⟩; have a1 := (kA.gr g).c1; have b1 := (kB.gr g).c1; have p1 := (kP.gr g).c1)
        go_ret
        exact ⟨rfl, hG.trans g⟩
      · have e1 : r = 0 := by have := e0.out; simpa [h1, h2, h3, h4] using this
        subst e1
        go_enter Tryz.func133, Tryz.ntmps133
        go_wp2_with (go_at_call 140; refine (C.out _).mono ?_; rintro e w' ⟨rfl, g⟩; have a1 := (kA.gr g).c1; have b1 := (kB.gr g).c1; have p1 := (kP.gr g).c1)
        go_ret
        exact ⟨rfl, hG.trans g⟩
      · have e1 : r = 0 := by have := e0.out; simpa [h1, h2, h3, h4] using this
        subst e1
        go_enter Tryz.func133, Tryz.ntmps133
        go_wp2_with (go_at_call 140; refine (C.out _).mono ?_; rintro e w' ⟨rfl, g⟩; have a1 := (kA.gr g).c1; have b1 := (kB.gr g).c1; have p1 := (kP.gr g).c1)
        go_ret
        exact ⟨rfl, hG.trans g⟩
    · have h3 : by_ ≤ py := by omega
      have e1 : r = 0 := by have := e0.out; simpa [h1, h2, h3, h4] using this
      subst e1
      go_enter Tryz.func133, Tryz.ntmps133
      go_wp2
      go_ret
      exact ⟨rfl, hG⟩
  · have h4 : py < ay := by omega
    by_cases h2 : py < by_
    · have h3 : ¬ by_ ≤ py := by omega
      have e1 : r = 0 := by have := e0.out; simpa [h1, h2, h3, h4] using this
      subst e1
      go_enter Tryz.func133, Tryz.ntmps133
      go_wp2
      go_ret
      exact ⟨rfl, hG⟩
    · have h3 : by_ ≤ py := by omega
      rcases ht with rfl | rfl | rfl
      · have e1 : r = 0 := by have := e0.out; simpa [h1, h2, h3, h4] using this
        subst e1
        go_enter Tryz.func133, Tryz.ntmps133
        go_wp2_with (go_at_call 140; refine (C.out _).mono ?_; rintro e w' ⟨rfl, g⟩)
        go_ret
        exact ⟨rfl, hG.trans g⟩
      · have e1 : r = -1 := by have := e0.out; simpa [h1, h2, h3, h4] using this
        subst e1
        go_enter Tryz.func133, Tryz.ntmps133
        go_wp2_with (go_at_call 140; refine (C.out _).mono ?_; rintro e w' ⟨rfl, g⟩)
        go_ret
        exact ⟨rfl, hG.trans g⟩
      · have e1 : r = 0 := by have := e0.out; simpa [h1, h2, h3, h4] using this
        subst e1
        go_enter Tryz.func133, Tryz.ntmps133
        go_wp2_with (go_at_call 140; refine (C.out _).mono ?_; rintro e w' ⟨rfl, g⟩)
        go_ret
        exact ⟨rfl, hG.trans g⟩
end
section
open Go.RowKit Go.Shelf Go.Sort
attribute [local go_sem] Oper.semAt_some wide_fn
attribute [local simp] wide_fn

def crossI (p a b : Int × Int) : Int := pastI p a b * pastI p a b

set_option maxRecDepth 100000 in
set_option maxHeartbeats 2000000 in
theorem cross1_any (p a b : Int × Int) (hp : P32 p) (ha : P32 a) (hb : P32 b) (Bp : Nat) (w : World) (hB : PtB w Bp p) :
    Calls Tryz.prog 132 #[pt a.1 a.2, pt b.1 b.2, .pointer (some ⟨Bp, 0, none⟩)] w fun e w' => e = .returned (.int .i64 (crossI p a b)) ∧ Gr w w' := by
  have d0 := ((hB.alloc (.cells #[.int .i32 a.1, .int .i32 a.2] 28)).alloc (.cells #[.int .i32 b.1, .int .i32 b.2] 28)).c0
  have d1 := ((hB.alloc (.cells #[.int .i32 a.1, .int .i32 a.2] 28)).alloc (.cells #[.int .i32 b.1, .int .i32 b.2] 28)).c1
  have C : Hid (∀ w, Calls Tryz.prog 133 #[pt a.1 a.2, pt b.1 b.2, pt p.1 p.2] w fun e w' => e = .returned (.int .i64 (pastI p a b)) ∧ Gr w w') := fun w => past_any p a b hp ha hb w
  have hb1 := pastI_bd p a b
  unfold crossI
  generalize pastI p a b = r at *
  have em : wrap64 (r * r) = r * r := by rcases hb1 with rfl | rfl | rfl <;> (unfold wrap64; omega)
  rw [← em]
  clear em
  clear hb1
  go_enter Tryz.func132, Tryz.ntmps132
  go_wp2_with (go_at_call 133; refine (C.out _).mono ?_; rintro e w' ⟨rfl, g⟩)
  go_ret
  exact ⟨rfl, (((Gr.refl _).alloc _).alloc _).trans g⟩

def sumZ (f : Int × Int → Int × Int → Int) (L : List (Int × Int)) (k : Nat) : Int := (List.range k).foldl (fun s x => s + f (pAt L x) (pAt L (x + 1))) 0
theorem sumZ_succ (f : Int × Int → Int × Int → Int) (L : List (Int × Int)) (k : Nat) : sumZ f L (k + 1) = sumZ f L k + f (pAt L k) (pAt L (k + 1)) := by simp [sumZ, List.range_succ]
theorem sumZ_bd {f : Int × Int → Int × Int → Int} {L : List (Int × Int)} {M : Int} (h : ∀ a b, -M ≤ f a b ∧ f a b ≤ M) (k : Nat) : -(M * k) ≤ sumZ f L k ∧ sumZ f L k ≤ M * k := by
  induction k with
  | zero => simp [sumZ]
  | succ k ih =>
    rw [sumZ_succ]
    have := h (pAt L k) (pAt L (k + 1))
    rw [show M * ((k + 1 : Nat) : Int) = M * k + M by push_cast; rw [Int.mul_add, Int.mul_one]]
    omega
theorem totW_sumZ {f : Int × Int → Int × Int → Int} {L : List (Int × Int)} {M : Int} (h : ∀ a b, -M ≤ f a b ∧ f a b ≤ M) (n : Nat) (hn : M * n ≤ 9223372036854775807) (hM : 0 ≤ M) : ∀ k, k ≤ n → totW f L (List.range k) = sumZ f L k := by
  intro k
  induction k with
  | zero => intro _; rfl
  | succ k ih =>
    intro hk
    rw [List.range_succ, totW_snoc, ih (by omega), sumZ_succ]
    have h1 := sumZ_bd (L := L) h (k + 1)
    rw [sumZ_succ] at h1
    have h2 : M * ((k + 1 : Nat) : Int) ≤ M * n := Int.mul_le_mul_of_nonneg_left (by omega) hM
    unfold wrap64
    omega
theorem past_abs (p : Int × Int) (a b : Int × Int) : -1 ≤ pastI p a b ∧ pastI p a b ≤ 1 := by rcases pastI_bd p a b with h | h | h <;> omega
theorem cross_abs (p : Int × Int) (a b : Int × Int) : -1 ≤ crossI p a b ∧ crossI p a b ≤ 1 := by unfold crossI; rcases pastI_bd p a b with h | h | h <;> rw [h] <;> omega

set_option maxRecDepth 100000 in
set_option maxHeartbeats 2000000 in
theorem crossings_any (ao : Option Addr) (cap : Nat) (L : List (Int × Int)) (hL : All32 L) (hlen : L.length ≤ 17592186043904) (p : Int × Int) (hp : P32 p) (w : World) (hP : Pts w ao L) :
    Calls Tryz.prog 125 #[.slice ao L.length cap, pt p.1 p.2] w fun e w' => e = .returned (.int .i64 (sumZ (crossI p) L L.length)) ∧ Below w.heap.size w w' := by
  have g : Gr w (w.alloc (.cells #[.int .i32 p.1, .int .i32 p.2] 28)) := (Gr.refl _).alloc _
  have C : Hid (Calls Tryz.prog 131 #[.slice ao L.length cap, .func (.func 132) #[] #[.pointer (some ⟨w.heap.size, 0, none⟩)]] (w.alloc (.cells #[.int .i32 p.1, .int .i32 p.2] 28)) fun e w' => e = .returned (.int .i64 (sumZ (crossI p) L L.length)) ∧ Below (w.alloc (.cells #[.int .i32 p.1, .int .i32 p.2] 28)).heap.size (w.alloc (.cells #[.int .i32 p.1, .int .i32 p.2] 28)) w') := by
    have := callsIn_wide.1 (total_in 9 (by omega) ao cap L hL hlen 132 #[.pointer (some ⟨w.heap.size, 0, none⟩)] (crossI p) (w.alloc (.cells #[.int .i32 p.1, .int .i32 p.2] 28)) (hP.mono g.below) (enters_of Tryz.func132 (by kernel_rfl) rfl)
      (fun W a b hB ha hb => cross1_any p a b hp ha hb w.heap.size W ((PtB.new w p).mono hB (by simp))))
    rw [totW_sumZ (M := 1) (cross_abs p) L.length (by omega) (by omega) L.length (Nat.le_refl _)] at this
    exact this
  generalize sumZ (crossI p) L L.length = r at *
  go_enter Tryz.func125, Tryz.ntmps125
  go_wp2_with (go_at_call 131; refine C.out.mono ?_; rintro e w' ⟨rfl, g'⟩)
  go_ret
  exact ⟨rfl, g.below.trans (g'.mono g.size)⟩

def coversL (L : List (Int × Int)) (p : Int × Int) : Bool := edgeL L p || (sumZ (crossI p) L L.length % 2 == 1)

set_option maxRecDepth 100000 in
set_option maxHeartbeats 2000000 in
theorem covers_any (ao : Option Addr) (cap : Nat) (L : List (Int × Int)) (hL : All32 L) (hlen : L.length ≤ 17592186043904) (p : Int × Int) (hp : P32 p) (w : World) (hP : Pts w ao L) :
    Calls Tryz.prog 115 #[.slice ao L.length cap, pt p.1 p.2] w fun e w' => e = .returned (.bool (coversL L p)) ∧ Below w.heap.size w w' := by
  have g : Gr w (w.alloc (.cells #[.int .i32 p.1, .int .i32 p.2] 28)) := (Gr.refl _).alloc _
  have q := PtB.new w p
  have C : Hid (Calls Tryz.prog 124 #[.slice ao L.length cap, pt p.1 p.2] (w.alloc (.cells #[.int .i32 p.1, .int .i32 p.2] 28)) fun e w' => e = .returned (.bool (edgeL L p)) ∧ Below (w.alloc (.cells #[.int .i32 p.1, .int .i32 p.2] 28)).heap.size (w.alloc (.cells #[.int .i32 p.1, .int .i32 p.2] 28)) w') := edge_any ao cap L hL hlen p hp _ (hP.mono g.below)
  have D : Hid (∀ W, Below (w.alloc (.cells #[.int .i32 p.1, .int .i32 p.2] 28)).heap.size (w.alloc (.cells #[.int .i32 p.1, .int .i32 p.2] 28)) W → Calls Tryz.prog 125 #[.slice ao L.length cap, pt p.1 p.2] W fun e w' => e = .returned (.int .i64 (sumZ (crossI p) L L.length)) ∧ Below W.heap.size W w') := fun W hB => crossings_any ao cap L hL hlen p hp W ((hP.mono g.below).mono hB)
  have hc0 : 0 ≤ sumZ (crossI p) L L.length := by
    generalize L.length = k
    induction k with
    | zero => exact Int.le_refl _
    | succ k ih =>
      rw [sumZ_succ]
      have : 0 ≤ crossI p (pAt L k) (pAt L (k + 1)) := by unfold crossI; rcases pastI_bd p (pAt L k) (pAt L (k + 1)) with h | h | h <;> rw [h] <;> omega
      omega
  have hcu : sumZ (crossI p) L L.length ≤ 9223372036854775807 := by have := (sumZ_bd (L := L) (M := 1) (cross_abs p) L.length).2; omega
  unfold coversL
  generalize sumZ (crossI p) L L.length = r at *
  cases he : edgeL L p with
  | true =>
    rw [he] at C
    go_enter Tryz.func115, Tryz.ntmps115
    go_wp2_with (first | (go_at_call 124; refine C.out.mono ?_; rintro e w' ⟨rfl, g'⟩))
    go_ret
    exact ⟨rfl, g.below.trans (g'.mono g.size)⟩
  | false =>
    rw [he] at C
    go_enter Tryz.func115, Tryz.ntmps115
    go_wp2_with (first | (go_at_call 124; refine C.out.mono ?_; rintro e w' ⟨rfl, g'⟩; have c0 := (q.mono g' q.lt).c0; have c1 := (q.mono g' q.lt).c1) | (go_at_call 125; refine (D.out _ g').mono ?_; rintro e w2 ⟨rfl, g2⟩))
    go_ret
    exact ⟨by rw [Bool.false_or]; rfl, g.below.trans ((g'.trans (g2.mono g'.size)).mono g.size)⟩
end
end Go.Proofs.YtgcofpfjdplopaaGreat
