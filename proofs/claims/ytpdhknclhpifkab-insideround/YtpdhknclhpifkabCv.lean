/- inside's Crossings, Winding, Covers. -/
import Derived.Test.YtpdhknclhpifkabPs
namespace Go.Proofs.Ytpdhknclhpifkab
open Go.RowKit Go.Shelf Go.Sort
attribute [local go_sem] Oper.semAt_some wide_fn
attribute [local simp] wide_fn

set_option maxRecDepth 100000 in
set_option maxHeartbeats 2000000 in
theorem wind1_any (p a b : Int × Int) (hp : P32 p) (ha : P32 a) (hb : P32 b) (Bp : Nat) (w : World) (hB : PtB w Bp p) :
    Calls Try.prog 21 #[pt a.1 a.2, pt b.1 b.2, .pointer (some ⟨Bp, 0, none⟩)] w fun e w' => e = .returned (.int .i64 (pastI p a b)) ∧ Gr w w' := by
  have d0 := ((hB.alloc (.cells #[.int .i32 a.1, .int .i32 a.2] 25)).alloc (.cells #[.int .i32 b.1, .int .i32 b.2] 25)).c0
  have d1 := ((hB.alloc (.cells #[.int .i32 a.1, .int .i32 a.2] 25)).alloc (.cells #[.int .i32 b.1, .int .i32 b.2] 25)).c1
  have C : Hid (∀ w, Calls Try.prog 22 #[pt a.1 a.2, pt b.1 b.2, pt p.1 p.2] w fun e w' => e = .returned (.int .i64 (pastI p a b)) ∧ Gr w w') := fun w => past_any p a b hp ha hb w
  generalize pastI p a b = r at *
  go_enter Try.func21, Try.ntmps21
  go_wp2_with (go_at_call 22; refine (C.out _).mono ?_; rintro e w' ⟨rfl, g⟩)
  go_ret
  exact ⟨rfl, (((Gr.refl _).alloc _).alloc _).trans g⟩

def crossI (p a b : Int × Int) : Int := pastI p a b * pastI p a b

set_option maxRecDepth 100000 in
set_option maxHeartbeats 2000000 in
theorem cross1_any (p a b : Int × Int) (hp : P32 p) (ha : P32 a) (hb : P32 b) (Bp : Nat) (w : World) (hB : PtB w Bp p) :
    Calls Try.prog 23 #[pt a.1 a.2, pt b.1 b.2, .pointer (some ⟨Bp, 0, none⟩)] w fun e w' => e = .returned (.int .i64 (crossI p a b)) ∧ Gr w w' := by
  have d0 := ((hB.alloc (.cells #[.int .i32 a.1, .int .i32 a.2] 25)).alloc (.cells #[.int .i32 b.1, .int .i32 b.2] 25)).c0
  have d1 := ((hB.alloc (.cells #[.int .i32 a.1, .int .i32 a.2] 25)).alloc (.cells #[.int .i32 b.1, .int .i32 b.2] 25)).c1
  have C : Hid (∀ w, Calls Try.prog 22 #[pt a.1 a.2, pt b.1 b.2, pt p.1 p.2] w fun e w' => e = .returned (.int .i64 (pastI p a b)) ∧ Gr w w') := fun w => past_any p a b hp ha hb w
  have hb1 := pastI_bd p a b
  unfold crossI
  generalize pastI p a b = r at *
  have em : wrap64 (r * r) = r * r := by rcases hb1 with rfl | rfl | rfl <;> (unfold wrap64; omega)
  rw [← em]
  clear em
  clear hb1
  go_enter Try.func23, Try.ntmps23
  go_wp2_with (go_at_call 22; refine (C.out _).mono ?_; rintro e w' ⟨rfl, g⟩)
  go_ret
  exact ⟨rfl, (((Gr.refl _).alloc _).alloc _).trans g⟩

def sumZ (f : Int × Int → Int × Int → Int) (L : List (Int × Int)) (k : Nat) : Int := (List.range k).foldl (fun s x => s + f (pAt L x) (pAt L (x + 1))) 0
theorem sumZ_succ (f : Int × Int → Int × Int → Int) (L : List (Int × Int)) (k : Nat) : sumZ f L (k + 1) = sumZ f L k + f (pAt L k) (pAt L (k + 1)) := by simp [sumZ, List.range_succ]
theorem sumZ_bd {f : Int × Int → Int × Int → Int} {L : List (Int × Int)} {M : Int} (h : ∀ a b, -M ≤ f a b ∧ f a b ≤ M) (k : Nat) : -(M * k) ≤ sumZ f L k ∧ sumZ f L k ≤ M * k := by
  induction k with
  | zero => simp [sumZ]
  | succ k ih =>
    rw [sumZ_succ]
    have := h (pAt L k) (pAt L (k + 1))
    rw [show M * ((k + 1 : Nat) : Int) = M * k + M by push_cast; rw [Int.mul_add, Int.mul_one]]
    omega
theorem totW_sumZ {f : Int × Int → Int × Int → Int} {L : List (Int × Int)} {M : Int} (h : ∀ a b, -M ≤ f a b ∧ f a b ≤ M) (n : Nat) (hn : M * n ≤ 9223372036854775807) (hM : 0 ≤ M) : ∀ k, k ≤ n → totW f L (List.range k) = sumZ f L k := by
  intro k
  induction k with
  | zero => intro _; rfl
  | succ k ih =>
    intro hk
    rw [List.range_succ, totW_snoc, ih (by omega), sumZ_succ]
    have h1 := sumZ_bd (L := L) h (k + 1)
    rw [sumZ_succ] at h1
    have h2 : M * ((k + 1 : Nat) : Int) ≤ M * n := Int.mul_le_mul_of_nonneg_left (by omega) hM
    unfold wrap64
    omega
theorem past_abs (p : Int × Int) (a b : Int × Int) : -1 ≤ pastI p a b ∧ pastI p a b ≤ 1 := by rcases pastI_bd p a b with h | h | h <;> omega
theorem cross_abs (p : Int × Int) (a b : Int × Int) : -1 ≤ crossI p a b ∧ crossI p a b ≤ 1 := by unfold crossI; rcases pastI_bd p a b with h | h | h <;> rw [h] <;> omega

set_option maxRecDepth 100000 in
set_option maxHeartbeats 2000000 in
theorem winding_any (ao : Option Addr) (cap : Nat) (L : List (Int × Int)) (hL : All32 L) (hlen : L.length ≤ 17592186043904) (p : Int × Int) (hp : P32 p) (w : World) (hP : Pts w ao L) :
    Calls Try.prog 10 #[.slice ao L.length cap, pt p.1 p.2] w fun e w' => e = .returned (.int .i64 (sumZ (pastI p) L L.length)) ∧ Below w.heap.size w w' := by
  have g : Gr w (w.alloc (.cells #[.int .i32 p.1, .int .i32 p.2] 25)) := (Gr.refl _).alloc _
  have C : Hid (Calls Try.prog 20 #[.slice ao L.length cap, .func (.func 21) #[] #[.pointer (some ⟨w.heap.size, 0, none⟩)]] (w.alloc (.cells #[.int .i32 p.1, .int .i32 p.2] 25)) fun e w' => e = .returned (.int .i64 (sumZ (pastI p) L L.length)) ∧ Below (w.alloc (.cells #[.int .i32 p.1, .int .i32 p.2] 25)).heap.size (w.alloc (.cells #[.int .i32 p.1, .int .i32 p.2] 25)) w') := by
    have := callsIn_wide.1 (total_in 9 (by omega) ao cap L hL hlen 21 #[.pointer (some ⟨w.heap.size, 0, none⟩)] (pastI p) (w.alloc (.cells #[.int .i32 p.1, .int .i32 p.2] 25)) (hP.mono g.below) (enters_of Try.func21 (by kernel_rfl) rfl)
      (fun W a b hB ha hb => wind1_any p a b hp ha hb w.heap.size W ((PtB.new w p).mono hB (by simp))))
    rw [totW_sumZ (M := 1) (past_abs p) L.length (by omega) (by omega) L.length (Nat.le_refl _)] at this
    exact this
  generalize sumZ (pastI p) L L.length = r at *
  go_enter Try.func10, Try.ntmps10
  go_wp2_with (go_at_call 20; refine C.out.mono ?_; rintro e w' ⟨rfl, g'⟩)
  go_ret
  exact ⟨rfl, g.below.trans (g'.mono g.size)⟩

set_option maxRecDepth 100000 in
set_option maxHeartbeats 2000000 in
theorem crossings_any (ao : Option Addr) (cap : Nat) (L : List (Int × Int)) (hL : All32 L) (hlen : L.length ≤ 17592186043904) (p : Int × Int) (hp : P32 p) (w : World) (hP : Pts w ao L) :
    Calls Try.prog 13 #[.slice ao L.length cap, pt p.1 p.2] w fun e w' => e = .returned (.int .i64 (sumZ (crossI p) L L.length)) ∧ Below w.heap.size w w' := by
  have g : Gr w (w.alloc (.cells #[.int .i32 p.1, .int .i32 p.2] 25)) := (Gr.refl _).alloc _
  have C : Hid (Calls Try.prog 20 #[.slice ao L.length cap, .func (.func 23) #[] #[.pointer (some ⟨w.heap.size, 0, none⟩)]] (w.alloc (.cells #[.int .i32 p.1, .int .i32 p.2] 25)) fun e w' => e = .returned (.int .i64 (sumZ (crossI p) L L.length)) ∧ Below (w.alloc (.cells #[.int .i32 p.1, .int .i32 p.2] 25)).heap.size (w.alloc (.cells #[.int .i32 p.1, .int .i32 p.2] 25)) w') := by
    have := callsIn_wide.1 (total_in 9 (by omega) ao cap L hL hlen 23 #[.pointer (some ⟨w.heap.size, 0, none⟩)] (crossI p) (w.alloc (.cells #[.int .i32 p.1, .int .i32 p.2] 25)) (hP.mono g.below) (enters_of Try.func23 (by kernel_rfl) rfl)
      (fun W a b hB ha hb => cross1_any p a b hp ha hb w.heap.size W ((PtB.new w p).mono hB (by simp))))
    rw [totW_sumZ (M := 1) (cross_abs p) L.length (by omega) (by omega) L.length (Nat.le_refl _)] at this
    exact this
  generalize sumZ (crossI p) L L.length = r at *
  go_enter Try.func13, Try.ntmps13
  go_wp2_with (go_at_call 20; refine C.out.mono ?_; rintro e w' ⟨rfl, g'⟩)
  go_ret
  exact ⟨rfl, g.below.trans (g'.mono g.size)⟩

def coversL (L : List (Int × Int)) (p : Int × Int) : Bool := edgeL L p || (sumZ (crossI p) L L.length % 2 == 1)

set_option maxRecDepth 100000 in
set_option maxHeartbeats 2000000 in
theorem covers_any (ao : Option Addr) (cap : Nat) (L : List (Int × Int)) (hL : All32 L) (hlen : L.length ≤ 17592186043904) (p : Int × Int) (hp : P32 p) (w : World) (hP : Pts w ao L) :
    Calls Try.prog 9 #[.slice ao L.length cap, pt p.1 p.2] w fun e w' => e = .returned (.bool (coversL L p)) ∧ Below w.heap.size w w' := by
  have g : Gr w (w.alloc (.cells #[.int .i32 p.1, .int .i32 p.2] 25)) := (Gr.refl _).alloc _
  have q := PtB.new w p
  have C : Hid (Calls Try.prog 8 #[.slice ao L.length cap, pt p.1 p.2] (w.alloc (.cells #[.int .i32 p.1, .int .i32 p.2] 25)) fun e w' => e = .returned (.bool (edgeL L p)) ∧ Below (w.alloc (.cells #[.int .i32 p.1, .int .i32 p.2] 25)).heap.size (w.alloc (.cells #[.int .i32 p.1, .int .i32 p.2] 25)) w') := edge_any ao cap L hL hlen p hp _ (hP.mono g.below)
  have D : Hid (∀ W, Below (w.alloc (.cells #[.int .i32 p.1, .int .i32 p.2] 25)).heap.size (w.alloc (.cells #[.int .i32 p.1, .int .i32 p.2] 25)) W → Calls Try.prog 13 #[.slice ao L.length cap, pt p.1 p.2] W fun e w' => e = .returned (.int .i64 (sumZ (crossI p) L L.length)) ∧ Below W.heap.size W w') := fun W hB => crossings_any ao cap L hL hlen p hp W ((hP.mono g.below).mono hB)
  have hc0 : 0 ≤ sumZ (crossI p) L L.length := by
    generalize L.length = k
    induction k with
    | zero => exact Int.le_refl _
    | succ k ih =>
      rw [sumZ_succ]
      have : 0 ≤ crossI p (pAt L k) (pAt L (k + 1)) := by unfold crossI; rcases pastI_bd p (pAt L k) (pAt L (k + 1)) with h | h | h <;> rw [h] <;> omega
      omega
  have hcu : sumZ (crossI p) L L.length ≤ 9223372036854775807 := by have := (sumZ_bd (L := L) (M := 1) (cross_abs p) L.length).2; omega
  unfold coversL
  generalize sumZ (crossI p) L L.length = r at *
  cases he : edgeL L p with
  | true =>
    rw [he] at C
    go_enter Try.func9, Try.ntmps9
    go_wp2_with (first | (go_at_call 8; refine C.out.mono ?_; rintro e w' ⟨rfl, g'⟩))
    go_ret
    exact ⟨rfl, g.below.trans (g'.mono g.size)⟩
  | false =>
    rw [he] at C
    go_enter Try.func9, Try.ntmps9
    go_wp2_with (first | (go_at_call 8; refine C.out.mono ?_; rintro e w' ⟨rfl, g'⟩; have c0 := (q.mono g' q.lt).c0; have c1 := (q.mono g' q.lt).c1) | (go_at_call 13; refine (D.out _ g').mono ?_; rintro e w2 ⟨rfl, g2⟩))
    go_ret
    exact ⟨by rw [Bool.false_or]; rfl, g.below.trans ((g'.trans (g2.mono g'.size)).mono g.size)⟩
end Go.Proofs.Ytpdhknclhpifkab
