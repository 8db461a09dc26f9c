/- Contract of the program's text of millionths. -/
import Derived.Test.YtmkechhjgdanmaaGreatDoorDegW
namespace Go.Proofs.YtmkechhjgdanmaaGreatDoor
open Go.RowKit Go.Sort Go.Lib

theorem tab_gr {w w' : World} (h : TabIs Tryz.prog w "internal/strconv.uint64pow10" .u64 pow10Tab) (g : RowKit.Below w.heap.size w w') : TabIs Tryz.prog w' "internal/strconv.uint64pow10" .u64 pow10Tab := by
  unfold TabIs World.var? at *
  cases hg : Tryz.prog.globalNamed "internal/strconv.uint64pow10" with
  | none => simp [hg] at h
  | some i =>
    simp only [hg, Option.bind_some] at h ⊢
    have hlt : i < w.heap.size := by
      rcases Nat.lt_or_ge i w.heap.size with h' | h'
      · exact h'
      · rw [Array.getElem?_eq_none h'] at h; simp at h
    rw [g.block i hlt]
    exact h
theorem pad_len : ∀ (k t : Nat), (pad k t).length = k
  | 0, _ => rfl
  | k + 1, t => by show (pad k (t / 10) ++ [dsg (t % 10)]).length = _; rw [List.length_append, pad_len k]; rfl
theorem extract_one (c : UInt8) (l : List UInt8) (n : Nat) : (⟨(c :: l).toArray⟩ : ByteArray).extract 1 (n + 1) = ⟨(l.take n).toArray⟩ := by
  apply ByteArray.ext
  rw [ByteArray.data_extract]
  simp [List.extract]
theorem fmt_any (n : Nat) (hn : n ≤ 9223372036854775807) (w : World) (ht : TabIs Tryz.prog w "internal/strconv.uint64pow10" .u64 pow10Tab) :
    Calls Tryz.prog 62 #[.int .i64 (n : Int), .int .i64 10] w fun e w' => e = .returned (.string ⟨(decDigits n).toArray⟩) ∧ Gr w w' := by
  have h := Tryz.strconv_FormatInt_10 (n : Int) (by omega) (by omega) w ht
  have e : itoa (n : Int) = decDigits n := by unfold itoa; rw [if_neg (by omega)]; rfl
  rw [e] at h
  exact h
theorem trimr_any (l : List UInt8) (hl : l.length ≤ 1000) (w : World) : Calls Tryz.prog 63 #[.string ⟨l.toArray⟩, .string ⟨#[48]⟩] w fun e w' => e = .returned (.string ⟨(trimRightB l 48).toArray⟩) ∧ w' = w :=
  Tryz.strings_TrimRight_one ⟨l.toArray⟩ 48 (by decide) w (by simp [ByteArray.size]; omega)
set_option maxRecDepth 20000 in
set_option maxHeartbeats 1600000 in
theorem deg_any (m : Int) (hm : -2147483648 ≤ m ∧ m ≤ 2147483647) (w : World) (ht : TabIs Tryz.prog w "internal/strconv.uint64pow10" .u64 pow10Tab) :
    Calls Tryz.prog 40 #[.int .i32 m] w fun e w' => e = .returned (.string ⟨(degT m).toArray⟩) ∧ Gr w w' := by
  have HT := hid' ht
  clear ht
  by_cases hneg : m < 0
  · obtain ⟨N, rfl⟩ : ∃ N : Nat, m = -(N : Int) := ⟨m.natAbs, by omega⟩
    have hN : 0 < N := by omega
    have F1 : Hid (∀ w, TabIs Tryz.prog w "internal/strconv.uint64pow10" .u64 pow10Tab → Calls Tryz.prog 62 #[.int .i64 ((N : Int) / 1000000), .int .i64 10] w fun e w' => e = .returned (.string ⟨(decDigits (N / 1000000)).toArray⟩) ∧ Gr w w') := fun w h => by
      have := fmt_any (N / 1000000) (by omega) w h
      rw [show ((N / 1000000 : Nat) : Int) = (N : Int) / 1000000 from by omega] at this
      exact this
    have F2 : Hid (∀ w, TabIs Tryz.prog w "internal/strconv.uint64pow10" .u64 pow10Tab → Calls Tryz.prog 62 #[.int .i64 (1000000 + (N : Int) % 1000000), .int .i64 10] w fun e w' => e = .returned (.string ⟨(49 :: pad 6 (N % 1000000)).toArray⟩) ∧ Gr w w') := fun w h => by
      have := fmt_any (1000000 + N % 1000000) (by omega) w h
      rw [show ((1000000 + N % 1000000 : Nat) : Int) = 1000000 + (N : Int) % 1000000 from by omega, show 1000000 + N % 1000000 = 1 * 10 ^ 6 + N % 1000000 from rfl, dec_two 1 (by omega) 6 _ (by show N % 1000000 < 1000000; omega), dec_small (by omega)] at this
      exact this
    have hdl := dec_len4 (n := N / 1000000) (by omega)
    have hpl := pad_len 6 (N % 1000000)
    have hp6 : N % 1000000 < 10 ^ 6 := by show N % 1000000 < 1000000; omega
    have htp := trim_pad 6 (N % 1000000) hp6
    have htl := tr_len 6 (N % 1000000)
    have FT := hid' (fun w => trimr_any (pad 6 (N % 1000000)) (by omega) w)
    rw [htp] at FT
    have EX : Hid (∀ n, ((⟨(49 :: pad 6 (N % 1000000)).toArray⟩ : ByteArray).extract 1 (n + 1)) = ⟨((pad 6 (N % 1000000)).take n).toArray⟩) := fun n => extract_one _ _ _
    have HE : Hid (degT (-(N : Int)) = [45] ++ decDigits (N / 1000000) ++ (if N % 1000000 = 0 then [] else 46 :: tr 6 (N % 1000000))) := by
      show degT _ = _
      unfold degT
      rw [if_pos (by omega), Int.natAbs_neg, Int.natAbs_natCast]
    generalize degT (-(N : Int)) = G at *
    clear htp
    have hz : ((N : Int) % 1000000 = 0) ↔ N % 1000000 = 0 := by omega
    generalize decDigits (N / 1000000) = D at *
    generalize pad 6 (N % 1000000) = P at *
    generalize tr 6 (N % 1000000) = T at *
    have R1 := fun w => run_string_add_lists (P := Tryz.prog) w [45] D (by simp) (by omega)
    have R2 : ∀ w, (Op.stringOp .add ⟨(45 :: D).toArray⟩ ⟨#[46]⟩).run Tryz.prog w = .ok (.string ⟨(45 :: (D ++ [46])).toArray⟩) w := fun w => run_string_add_lists (P := Tryz.prog) w (45 :: D) [46] (by simp; omega) (by simp)
    have R3 : ∀ w, (Op.stringOp .add ⟨(45 :: (D ++ [46])).toArray⟩ ⟨T.toArray⟩).run Tryz.prog w = .ok (.string ⟨(45 :: (D ++ 46 :: T)).toArray⟩) w := fun w => by have := run_string_add_lists (P := Tryz.prog) w (45 :: (D ++ [46])) T (by simp; omega) (by omega); simpa using this
    by_cases h0 : N % 1000000 = 0
    · have h0' : ((N : Int) % 1000000 == 0) = true := by simp; omega
      rw [if_pos h0, List.append_nil] at HE
      go_enter Tryz.func40, Tryz.ntmps40
      go_upto_region 5 with (go_at_call 62; refine (F1.out _ HT.out).mono ?_; rintro e w1 ⟨rfl, g1⟩)
      go_wp2
      go_ret
      exact ⟨by rw [HE.out]; rfl, g1⟩
    · have h0' : ((N : Int) % 1000000 == 0) = false := by simp; omega
      rw [if_neg h0] at HE
      go_enter Tryz.func40, Tryz.ntmps40
      go_upto_region 5 with (go_at_call 62; refine (F1.out _ HT.out).mono ?_; rintro e w1 ⟨rfl, g1⟩)
      go_upto_region 8 with (go_at_call 62; refine (F2.out _ (tab_gr HT.out g1.below)).mono ?_; rintro e w2 ⟨rfl, g2⟩)
      have ex : (⟨(49 :: P).toArray⟩ : ByteArray).extract 1 7 = ⟨P.toArray⟩ := by
        have := EX.out 6
        rw [List.take_of_length_le (by omega)] at this
        exact this
      rw [ex]
      clear ex
      go_wp2_with (go_at_call 63; refine (FT.out _).mono ?_; rintro e w3 ⟨rfl, rfl⟩)
      go_ret
      exact ⟨by rw [HE.out]; simp, g1.trans g2⟩
  · obtain ⟨N, rfl⟩ : ∃ N : Nat, m = (N : Int) := ⟨m.toNat, by omega⟩
    have F1 : Hid (∀ w, TabIs Tryz.prog w "internal/strconv.uint64pow10" .u64 pow10Tab → Calls Tryz.prog 62 #[.int .i64 ((N : Int) / 1000000), .int .i64 10] w fun e w' => e = .returned (.string ⟨(decDigits (N / 1000000)).toArray⟩) ∧ Gr w w') := fun w h => by
      have := fmt_any (N / 1000000) (by omega) w h
      rw [show ((N / 1000000 : Nat) : Int) = (N : Int) / 1000000 from by omega] at this
      exact this
    have F2 : Hid (∀ w, TabIs Tryz.prog w "internal/strconv.uint64pow10" .u64 pow10Tab → Calls Tryz.prog 62 #[.int .i64 (1000000 + (N : Int) % 1000000), .int .i64 10] w fun e w' => e = .returned (.string ⟨(49 :: pad 6 (N % 1000000)).toArray⟩) ∧ Gr w w') := fun w h => by
      have := fmt_any (1000000 + N % 1000000) (by omega) w h
      rw [show ((1000000 + N % 1000000 : Nat) : Int) = 1000000 + (N : Int) % 1000000 from by omega, show 1000000 + N % 1000000 = 1 * 10 ^ 6 + N % 1000000 from rfl, dec_two 1 (by omega) 6 _ (by show N % 1000000 < 1000000; omega), dec_small (by omega)] at this
      exact this
    have hdl := dec_len4 (n := N / 1000000) (by omega)
    have hpl := pad_len 6 (N % 1000000)
    have hp6 : N % 1000000 < 10 ^ 6 := by show N % 1000000 < 1000000; omega
    have htp := trim_pad 6 (N % 1000000) hp6
    have htl := tr_len 6 (N % 1000000)
    have FT := hid' (fun w => trimr_any (pad 6 (N % 1000000)) (by omega) w)
    rw [htp] at FT
    have EX : Hid (∀ n, ((⟨(49 :: pad 6 (N % 1000000)).toArray⟩ : ByteArray).extract 1 (n + 1)) = ⟨((pad 6 (N % 1000000)).take n).toArray⟩) := fun n => extract_one _ _ _
    have HE : Hid (degT (N : Int) = ([] : List UInt8) ++ decDigits (N / 1000000) ++ (if N % 1000000 = 0 then [] else 46 :: tr 6 (N % 1000000))) := by
      show degT _ = _
      unfold degT
      rw [if_neg (by omega), Int.natAbs_natCast]
    generalize degT (N : Int) = G at *
    clear htp
    have hz : ((N : Int) % 1000000 = 0) ↔ N % 1000000 = 0 := by omega
    generalize decDigits (N / 1000000) = D at *
    generalize pad 6 (N % 1000000) = P at *
    generalize tr 6 (N % 1000000) = T at *
    have R1 := fun w => run_string_add_lists (P := Tryz.prog) w ([] : List UInt8) D (by simp) (by omega)
    have R2 : ∀ w, (Op.stringOp .add ⟨(D).toArray⟩ ⟨#[46]⟩).run Tryz.prog w = .ok (.string ⟨(D ++ [46]).toArray⟩) w := fun w => run_string_add_lists (P := Tryz.prog) w D [46] (by omega) (by simp)
    have R3 : ∀ w, (Op.stringOp .add ⟨(D ++ [46]).toArray⟩ ⟨T.toArray⟩).run Tryz.prog w = .ok (.string ⟨(D ++ 46 :: T).toArray⟩) w := fun w => by have := run_string_add_lists (P := Tryz.prog) w (D ++ [46]) T (by simp; omega) (by omega); simpa using this
    by_cases h0 : N % 1000000 = 0
    · have h0' : ((N : Int) % 1000000 == 0) = true := by simp; omega
      rw [if_pos h0, List.append_nil] at HE
      go_enter Tryz.func40, Tryz.ntmps40
      go_upto_region 5 with (go_at_call 62; refine (F1.out _ HT.out).mono ?_; rintro e w1 ⟨rfl, g1⟩)
      go_wp2
      go_ret
      exact ⟨by rw [HE.out]; rfl, g1⟩
    · have h0' : ((N : Int) % 1000000 == 0) = false := by simp; omega
      rw [if_neg h0] at HE
      go_enter Tryz.func40, Tryz.ntmps40
      go_upto_region 5 with (go_at_call 62; refine (F1.out _ HT.out).mono ?_; rintro e w1 ⟨rfl, g1⟩)
      go_upto_region 8 with (go_at_call 62; refine (F2.out _ (tab_gr HT.out g1.below)).mono ?_; rintro e w2 ⟨rfl, g2⟩)
      have ex : (⟨(49 :: P).toArray⟩ : ByteArray).extract 1 7 = ⟨P.toArray⟩ := by
        have := EX.out 6
        rw [List.take_of_length_le (by omega)] at this
        exact this
      rw [ex]
      clear ex
      go_wp2_with (go_at_call 63; refine (FT.out _).mono ?_; rintro e w3 ⟨rfl, rfl⟩)
      go_ret
      exact ⟨by rw [HE.out]; simp, g1.trans g2⟩
end Go.Proofs.YtmkechhjgdanmaaGreatDoor
