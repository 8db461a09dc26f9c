/- Contract of the reference's writing of degrees. -/
import Derived.Test.YtmkechhjgdanmaaGreatDoorDegS
import Derived.Great.BuildSlice
import Derived.Laws.IdiomStrings
namespace Go.Proofs.YtmkechhjgdanmaaGreatDoor
open Go.RowKit Go.Sort Go.Lib

theorem dec_round {x : Nat} (h : 9 < x) (s D : List UInt8) (hD : decDigits x ++ s = D) : decDigits (x / 10) ++ dsg (x % 10) :: s = D := by
  rw [← hD, dec_big (u := x) (by omega), List.append_assoc]; rfl
theorem dec_last {x : Nat} (h : ¬ 9 < x) (s D : List UInt8) (hD : decDigits x ++ s = D) : dsg x :: s = D := by
  rw [← hD, dec_small (u := x) (by omega)]; rfl
/-- What is left of the part behind the point. -/
def left (r : Nat) (s G : List UInt8) : Prop := ∃ k t : Nat, k ≤ 6 ∧ t < 10 ^ k ∧ r = t * 10 ^ (6 - k) ∧ s ++ tr k t = G
theorem left_end {s G : List UInt8} (h : left 0 s G) : s = G := by
  obtain ⟨k, t, _, _, h0, hs⟩ := h
  have hp : 0 < 10 ^ (6 - k) := Nat.pow_pos (by decide)
  have ht : t = 0 := by
    rcases Nat.eq_zero_or_pos t with h | h
    · exact h
    · have := Nat.mul_pos h hp
      omega
  rw [ht, tr_zero, List.append_nil] at hs
  exact hs
theorem left_lt {r : Nat} {s G : List UInt8} (h : left r s G) : r < 1000000 ∧ s.length ≤ G.length := by
  obtain ⟨k, t, hk, ht, h0, hs⟩ := h
  constructor
  · have hp : 0 < 10 ^ (6 - k) := Nat.pow_pos (by decide)
    have : t * 10 ^ (6 - k) < 10 ^ k * 10 ^ (6 - k) := Nat.mul_lt_mul_of_pos_right ht hp
    rw [← Nat.pow_add, show k + (6 - k) = 6 from by omega] at this
    rw [h0]
    exact this
  · have := congrArg List.length hs
    rw [List.length_append] at this
    omega
theorem left_step {r : Nat} {s G : List UInt8} (h : left r s G) (hr : 0 < r) : left (r * 10 % 1000000) (s ++ [dsg (r * 10 / 1000000)]) G ∧ r * 10 / 1000000 < 10 := by
  have hlt := (left_lt h).1
  refine ⟨?_, by omega⟩
  obtain ⟨k, t, hk, ht, h0, hs⟩ := h
  cases k with
  | zero =>
    rw [Nat.pow_zero] at ht
    have : t = 0 := by omega
    subst this
    omega
  | succ k =>
    have hp : 0 < 10 ^ (6 - k) := Nat.pow_pos (by decide)
    have ht0 : t ≠ 0 := fun e => by subst e; omega
    have e1 : r * 10 = t * 10 ^ (6 - k) := by
      rw [h0, Nat.mul_assoc, ← Nat.pow_succ, show (6 - (k + 1)).succ = 6 - k from by omega]
    have e2 : (1000000 : Nat) = 10 ^ k * 10 ^ (6 - k) := by rw [← Nat.pow_add, show k + (6 - k) = 6 from by omega]
    rw [e1, e2, Nat.mul_div_mul_right _ _ hp, Nat.mul_mod_mul_right]
    refine ⟨k, t % 10 ^ k, by omega, Nat.mod_lt _ (Nat.pow_pos (by decide)), rfl, ?_⟩
    rw [← hs, tr_succ ht0, List.append_assoc]
    rfl
theorem left_start (r : Nat) (h : r < 1000000) (s : List UInt8) : left r s (s ++ tr 6 r) := ⟨6, r, by omega, h, by simp, rfl⟩
theorem run_str (w : World) (d : Nat) (x : Int) (hx : x = 48 + (d : Int)) (hd : d < 10) : (convert 82 9 (.slice (some ⟨w.heap.size, 0, none⟩) 1 1)).run Tryz.prog (w.alloc (.cells #[.int .u8 x] 5)) = .ok (.string ⟨#[dsg d]⟩) (w.alloc (.cells #[.int .u8 x] 5)) := by
  have hc : (w.alloc (.cells #[.int .u8 x] 5)).cell? ⟨w.heap.size, 0, none⟩ = some (.int .u8 (48 + (d : Int))) := by
    rw [hx]
    rw [World.cell?_alloc_mark]; rfl
  generalize w.alloc (.cells #[.int .u8 x] 5) = W at *
  refine run_convert_bytes_back W 82 9 5 ⟨w.heap.size, 0, none⟩ 1 [dsg d] (by kernel_rfl) (by kernel_rfl) (by kernel_rfl) (fun j hj => ?_)
  have : j = 0 := by simpa using hj
  subst this
  show W.cell? _ = some (.int .u8 ((dsg d).toNat : Int))
  rw [dsg_nat hd]
  exact hc
set_option maxRecDepth 20000 in
set_option maxHeartbeats 3200000 in
theorem degr_any (m : Int) (hm : -2147483648 ≤ m ∧ m ≤ 2147483647) (w : World) :
    Calls Tryz.prog 41 #[.int .i32 m] w fun e w' => e = .returned (.string ⟨(degT m).toArray⟩) ∧ Gr w w' := by
  by_cases hneg : m < 0
  · obtain ⟨N, rfl⟩ : ∃ N : Nat, m = -(N : Int) := ⟨m.natAbs, by omega⟩
    have hN : 0 < N := by omega
    have HE : Hid (degT (-(N : Int)) = 45 :: (decDigits (N / 1000000) ++ (if N % 1000000 = 0 then [] else 46 :: tr 6 (N % 1000000)))) := by
      show degT _ = _
      unfold degT
      rw [if_pos (by omega), Int.natAbs_neg, Int.natAbs_natCast]; rfl
    have hdl := dec_len4 (n := N / 1000000) (by omega)
    have hdg := deg_len (-(N : Int)) (by omega)
    generalize degT (-(N : Int)) = G at *
    go_enter Tryz.func41, Tryz.ntmps41
    go_wp2
    go_loopw [5, 7] (fun x s wr => ∃ (k : Nat) (l : List UInt8), k ≤ 2148 ∧ Hid (decDigits k ++ l = decDigits (N / 1000000)) ∧ x = .int .i64 (k : Int) ∧ s = .string ⟨l.toArray⟩ ∧ Hid (Gr w wr)) (fun x _ _ => (RowKit.intOf x).toNat)
    case atStart => exact ⟨N / 1000000, [], by omega, by show _ = _; simp, by go_num, rfl, Gr.refl w⟩
    case round =>
      obtain ⟨x, s, hx, hD, rfl, rfl, hG⟩ := hrel
      have hs : s.length ≤ 4 := by
        have := congrArg List.length hD.out
        rw [List.length_append] at this
        omega
      by_cases h9 : 9 < x
      · have rc := run_str wr (x % 10) (48 + (x : Int) % 10) (by omega) (by omega)
        have HD := hid' (dec_round h9 s _ hD.out)
        generalize dsg (x % 10) = c at *
        have R1 : ∀ w, (Op.stringOp .add ⟨#[c]⟩ ⟨s.toArray⟩).run Tryz.prog w = .ok (.string ⟨(c :: s).toArray⟩) w := fun w => run_string_add_lists (P := Tryz.prog) w [c] s (by simp) (by omega)
        go_wp2
        go_roundw
        case rel => exact ⟨x / 10, c :: s, by omega, HD, by go_num, rfl, hG.out.alloc _⟩
        case measure => simp [RowKit.intOf]; omega
      · have rc := run_str wr x (48 + (x : Int)) rfl (by omega)
        have HD := hid' (dec_last h9 s _ hD.out)
        generalize dsg x = c at *
        have R1 : ∀ w, (Op.stringOp .add ⟨#[45]⟩ ⟨#[c]⟩).run Tryz.prog w = .ok (.string ⟨#[45, c]⟩) w := fun w => run_string_add_lists (P := Tryz.prog) w [45] [c] (by simp) (by simp)
        have R2 : ∀ w, (Op.stringOp .add ⟨#[45, c]⟩ ⟨s.toArray⟩).run Tryz.prog w = .ok (.string ⟨(45 :: c :: s).toArray⟩) w := fun w => run_string_add_lists (P := Tryz.prog) w [45, c] s (by simp) (by omega)
        have R3 : ∀ w, (Op.stringOp .add ⟨(45 :: c :: s).toArray⟩ ⟨#[46]⟩).run Tryz.prog w = .ok (.string ⟨(45 :: c :: (s ++ [46])).toArray⟩) w := fun w => run_string_add_lists (P := Tryz.prog) w (45 :: c :: s) [46] (by simp; omega) (by simp)
        by_cases h0 : N % 1000000 = 0
        · have h0' : ((N : Int) % 1000000 == 0) = true := by simp; omega
          have HG : Hid (G = 45 :: c :: s) := by
            have := HE.out
            rw [if_pos h0, List.append_nil, ← HD.out] at this
            exact this
          clear HE
          go_wp2
          go_ret
          exact ⟨by rw [HG.out]; rfl, hG.out.alloc _⟩
        · have h0' : ((N : Int) % 1000000 == 0) = false := by simp; omega
          have HL : Hid (left (N % 1000000) (45 :: c :: (s ++ [46])) G) := by
            have := HE.out
            rw [if_neg h0, ← HD.out] at this
            have h2 := left_start (N % 1000000) (by omega) (45 :: c :: (s ++ [46]))
            have e : (45 :: c :: (s ++ [46])) ++ tr 6 (N % 1000000) = G := by rw [this]; simp
            rw [e] at h2
            exact h2
          clear HE
          go_wp2
          go_loopw [4, 6] (fun tv rv wr => ∃ (t : List UInt8) (r : Nat), Hid (left r t G) ∧ r < 1000000 ∧ t.length ≤ 64 ∧ rv = .int .i64 (r : Int) ∧ tv = .string ⟨t.toArray⟩ ∧ Hid (Gr w wr)) (fun tv _ _ => match tv with | .string b => 100 - b.size | _ => 0)
          case atStart => exact ⟨_, N % 1000000, HL, by omega, by have := (left_lt HL.out).2; omega, by go_num, rfl, hG.out.alloc _⟩
          case round =>
            obtain ⟨t, r, hL, hr, ht, rfl, rfl, hG2⟩ := hrel
            by_cases hr0 : 0 < r
            · obtain ⟨h1, h2⟩ := left_step hL.out hr0
              have rc := run_str wr (r * 10 / 1000000) (48 + (r : Int) * 10 / 1000000) (by omega) h2
              have HL2 := hid' h1
              have ht2 := (left_lt h1).2
              clear h1
              generalize dsg (r * 10 / 1000000) = d at *
              have R4 : ∀ w, (Op.stringOp .add ⟨t.toArray⟩ ⟨#[d]⟩).run Tryz.prog w = .ok (.string ⟨(t ++ [d]).toArray⟩) w := fun w => run_string_add_lists (P := Tryz.prog) w t [d] (by omega) (by simp)
              go_wp2
              go_roundw
              case rel => exact ⟨t ++ [d], r * 10 % 1000000, HL2, by omega, by omega, by go_num, rfl, hG2.out.alloc _⟩
              case measure => simp [ByteArray.size]; omega
            · have hrz : r = 0 := by omega
              subst hrz
              have HT := hid' (left_end hL.out)
              go_wp2
              go_ret
              exact ⟨by rw [HT.out]; rfl, hG2.out⟩
  · obtain ⟨N, rfl⟩ : ∃ N : Nat, m = (N : Int) := ⟨m.toNat, by omega⟩
    have HE : Hid (degT (N : Int) = (decDigits (N / 1000000) ++ (if N % 1000000 = 0 then [] else 46 :: tr 6 (N % 1000000)))) := by
      show degT _ = _
      unfold degT
      rw [if_neg (by omega), Int.natAbs_natCast]; rfl
    have hdl := dec_len4 (n := N / 1000000) (by omega)
    have hdg := deg_len (N : Int) (by omega)
    generalize degT (N : Int) = G at *
    go_enter Tryz.func41, Tryz.ntmps41
    go_wp2
    go_loopw [5, 7] (fun x s wr => ∃ (k : Nat) (l : List UInt8), k ≤ 2148 ∧ Hid (decDigits k ++ l = decDigits (N / 1000000)) ∧ x = .int .i64 (k : Int) ∧ s = .string ⟨l.toArray⟩ ∧ Hid (Gr w wr)) (fun x _ _ => (RowKit.intOf x).toNat)
    case atStart => exact ⟨N / 1000000, [], by omega, by show _ = _; simp, by go_num, rfl, Gr.refl w⟩
    case round =>
      obtain ⟨x, s, hx, hD, rfl, rfl, hG⟩ := hrel
      have hs : s.length ≤ 4 := by
        have := congrArg List.length hD.out
        rw [List.length_append] at this
        omega
      by_cases h9 : 9 < x
      · have rc := run_str wr (x % 10) (48 + (x : Int) % 10) (by omega) (by omega)
        have HD := hid' (dec_round h9 s _ hD.out)
        generalize dsg (x % 10) = c at *
        have R1 : ∀ w, (Op.stringOp .add ⟨#[c]⟩ ⟨s.toArray⟩).run Tryz.prog w = .ok (.string ⟨(c :: s).toArray⟩) w := fun w => run_string_add_lists (P := Tryz.prog) w [c] s (by simp) (by omega)
        go_wp2
        go_roundw
        case rel => exact ⟨x / 10, c :: s, by omega, HD, by go_num, rfl, hG.out.alloc _⟩
        case measure => simp [RowKit.intOf]; omega
      · have rc := run_str wr x (48 + (x : Int)) rfl (by omega)
        have HD := hid' (dec_last h9 s _ hD.out)
        generalize dsg x = c at *
        have R1 : ∀ w, (Op.stringOp .add ⟨#[]⟩ ⟨#[c]⟩).run Tryz.prog w = .ok (.string ⟨#[c]⟩) w := fun w => run_string_add_lists (P := Tryz.prog) w [] [c] (by simp) (by simp)
        have R2 : ∀ w, (Op.stringOp .add ⟨#[c]⟩ ⟨s.toArray⟩).run Tryz.prog w = .ok (.string ⟨(c :: s).toArray⟩) w := fun w => run_string_add_lists (P := Tryz.prog) w [c] s (by simp) (by omega)
        have R3 : ∀ w, (Op.stringOp .add ⟨(c :: s).toArray⟩ ⟨#[46]⟩).run Tryz.prog w = .ok (.string ⟨(c :: (s ++ [46])).toArray⟩) w := fun w => run_string_add_lists (P := Tryz.prog) w (c :: s) [46] (by simp; omega) (by simp)
        by_cases h0 : N % 1000000 = 0
        · have h0' : ((N : Int) % 1000000 == 0) = true := by simp; omega
          have HG : Hid (G = c :: s) := by
            have := HE.out
            rw [if_pos h0, List.append_nil, ← HD.out] at this
            exact this
          clear HE
          go_wp2
          go_ret
          exact ⟨by rw [HG.out]; rfl, hG.out.alloc _⟩
        · have h0' : ((N : Int) % 1000000 == 0) = false := by simp; omega
          have HL : Hid (left (N % 1000000) (c :: (s ++ [46])) G) := by
            have := HE.out
            rw [if_neg h0, ← HD.out] at this
            have h2 := left_start (N % 1000000) (by omega) (c :: (s ++ [46]))
            have e : (c :: (s ++ [46])) ++ tr 6 (N % 1000000) = G := by rw [this]; simp
            rw [e] at h2
            exact h2
          clear HE
          go_wp2
          go_loopw [4, 6] (fun tv rv wr => ∃ (t : List UInt8) (r : Nat), Hid (left r t G) ∧ r < 1000000 ∧ t.length ≤ 64 ∧ rv = .int .i64 (r : Int) ∧ tv = .string ⟨t.toArray⟩ ∧ Hid (Gr w wr)) (fun tv _ _ => match tv with | .string b => 100 - b.size | _ => 0)
          case atStart => exact ⟨_, N % 1000000, HL, by omega, by have := (left_lt HL.out).2; omega, by go_num, rfl, hG.out.alloc _⟩
          case round =>
            obtain ⟨t, r, hL, hr, ht, rfl, rfl, hG2⟩ := hrel
            by_cases hr0 : 0 < r
            · obtain ⟨h1, h2⟩ := left_step hL.out hr0
              have rc := run_str wr (r * 10 / 1000000) (48 + (r : Int) * 10 / 1000000) (by omega) h2
              have HL2 := hid' h1
              have ht2 := (left_lt h1).2
              clear h1
              generalize dsg (r * 10 / 1000000) = d at *
              have R4 : ∀ w, (Op.stringOp .add ⟨t.toArray⟩ ⟨#[d]⟩).run Tryz.prog w = .ok (.string ⟨(t ++ [d]).toArray⟩) w := fun w => run_string_add_lists (P := Tryz.prog) w t [d] (by omega) (by simp)
              go_wp2
              go_roundw
              case rel => exact ⟨t ++ [d], r * 10 % 1000000, HL2, by omega, by omega, by go_num, rfl, hG2.out.alloc _⟩
              case measure => simp [ByteArray.size]; omega
            · have hrz : r = 0 := by omega
              subst hrz
              have HT := hid' (left_end hL.out)
              go_wp2
              go_ret
              exact ⟨by rw [HT.out]; rfl, hG2.out⟩
end Go.Proofs.YtmkechhjgdanmaaGreatDoor
