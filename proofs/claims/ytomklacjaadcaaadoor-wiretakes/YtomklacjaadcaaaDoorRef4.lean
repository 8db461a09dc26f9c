/- Contract of the reference's Float. -/
import Derived.Test.YtomklacjaadcaaaDoorFlt
namespace Go.Proofs.YtomklacjaadcaaaDoor
open Go.RowKit Go.Sort

set_option maxRecDepth 20000 in
set_option maxHeartbeats 3200000 in
theorem rfloat_none (r at' f : Nat) (l : List UInt8) (w : World) (h : RefIs w r l at' f) (hF : fixF l 8 at' f ≠ 0) (hV : fixV l 8 at' f = 0) :
    Calls Tryd.prog 64 #[.pointer (some ⟨r, 0, none⟩)] w fun e w' => e = .returned (.tuple #[.int .u64 0, .bool false]) ∧ RefIs w' r l (fixA l 8 at' f) (fixF l 8 at' f) ∧ w.grownBy w' (some r) := by
  have HX : Hid (Calls Tryd.prog 63 #[.pointer (some ⟨r, 0, none⟩), .int .i64 8] w fun e w' => e = .returned (.int .u64 0) ∧ RefIs w' r l (fixA l 8 at' f) (fixF l 8 at' f) ∧ w.grownBy w' (some r)) := by
    have := fixed_any r 8 at' f l (by decide) (by decide) w h
    rw [hV] at this
    exact this
  obtain ⟨ao, cap, h1, _⟩ := h
  have c1 : w.cell? ⟨r, 1, none⟩ = some (.int .i64 (at' : Nat)) := h1.cell 1
  clear h1 hV
  generalize fixA l 8 at' f = A at *
  generalize fixF l 8 at' f = F at *
  have hF1 : ((F : Int) == 0) = false := by simp; omega
  have hF2 : ((F : Int) != 0) = true := by simp; omega
  go_enter Tryd.func64, Tryd.ntmps64
  go_upto_region 3 with (go_at_call 63; refine HX.out.mono ?_; rintro e w2 ⟨rfl, r2, g2⟩)
  have R2 := hid' r2
  obtain ⟨ao2, cap2, q1, _⟩ := r2
  have d2 : w2.cell? ⟨r, 2, none⟩ = some (.int .i64 (F : Nat)) := q1.cell 2
  clear q1 c1 HX
  go_wp2
  go_ret2
  exact ⟨rfl, R2.out, g2⟩
set_option maxRecDepth 20000 in
set_option maxHeartbeats 3200000 in
theorem rfloat_bad (r at' : Nat) (l : List UInt8) (w : World) (h : RefIs w r l at' 0) (he : at' + 8 ≤ l.length) (hn : isN (num ((l.drop at').take 8))) (hno : num ((l.drop at').take 8) ≠ 9221120237041090561) :
    Calls Tryd.prog 64 #[.pointer (some ⟨r, 0, none⟩)] w fun e w' => e = .returned (.tuple #[.int .u64 0, .bool false]) ∧ RefIs w' r l at' 35 ∧ w.grownBy w' (some r) := by
  have hx := num_lt ((l.drop at').take 8)
  rw [show ((l.drop at').take 8).length = 8 from by simp; omega] at hx
  have HX : Hid (Calls Tryd.prog 63 #[.pointer (some ⟨r, 0, none⟩), .int .i64 8] w fun e w' => e = .returned (.int .u64 (num ((l.drop at').take 8) : Nat)) ∧ RefIs w' r l (at' + 8) 0 ∧ w.grownBy w' (some r)) := by
    have := fixed_any r 8 at' 0 l (by decide) (by decide) w h
    obtain ⟨e1, e2, e3⟩ := fix_yes he
    rw [e1, e2, e3] at this
    exact this
  obtain ⟨ao, cap, h1, _, _, _, h5, h6⟩ := h
  have c1 : w.cell? ⟨r, 1, none⟩ = some (.int .i64 (at' : Nat)) := h1.cell 1
  clear h1
  generalize num ((l.drop at').take 8) = X at *
  have HI : Hid (∀ w, Calls Tryd.prog 86 #[.int .u64 (X : Nat)] w fun e w' => e = .returned (.bool true) ∧ w' = w) := fun w => by
    have := none_any X hx w
    rw [decide_eq_true hn] at this
    exact this
  have hno1 : ((X : Int) == 9221120237041090561) = false := by simp; omega
  have hno2 : ((X : Int) != 9221120237041090561) = true := by simp; omega
  clear hn
  go_enter Tryd.func64, Tryd.ntmps64
  go_upto_region 3 with (go_at_call 63; refine HX.out.mono ?_; rintro e w2 ⟨rfl, r2, g2⟩)
  obtain ⟨ao2, cap2, q1, q2, q3, q4, q5, q6⟩ := r2
  have d2 : w2.cell? ⟨r, 2, none⟩ = some (.int .i64 0) := q1.cell 2
  have HF : Hid (Calls Tryd.prog 88 #[.pointer (some ⟨r, 0, none⟩), .int .i64 (at' : Nat), .int .i64 35] w2 fun e w' => e = .returned (.tuple #[]) ∧ RefIs w' r l at' 35 ∧ w2.grownBy w' (some r)) := ref_fail r at' 35 (by decide) l _ _ _ cap2 ao2 w2 q1 q2 q3 q4 h5 h6
  clear q1 q2 q3 q4 q5 q6 c1 HX
  go_wp2_with (first
    | (go_at_call 86; refine (HI.out _).mono ?_; rintro e w3 ⟨rfl, rfl⟩)
    | (go_at_call 88; refine HF.out.mono ?_; rintro e w4 ⟨rfl, r4, g4⟩))
  go_ret2
  exact ⟨rfl, r4, grown_trans g2 g4⟩
set_option maxRecDepth 20000 in
set_option maxHeartbeats 3200000 in
theorem rfloat_ok (r at' : Nat) (l : List UInt8) (w : World) (h : RefIs w r l at' 0) (he : at' + 8 ≤ l.length) (hok : ¬ isN (num ((l.drop at').take 8)) ∨ num ((l.drop at').take 8) = 9221120237041090561) :
    Calls Tryd.prog 64 #[.pointer (some ⟨r, 0, none⟩)] w fun e w' => e = .returned (.tuple #[.int .u64 (num ((l.drop at').take 8) : Nat), .bool true]) ∧ RefIs w' r l (at' + 8) 0 ∧ w.grownBy w' (some r) := by
  have hx := num_lt ((l.drop at').take 8)
  rw [show ((l.drop at').take 8).length = 8 from by simp; omega] at hx
  have HX : Hid (Calls Tryd.prog 63 #[.pointer (some ⟨r, 0, none⟩), .int .i64 8] w fun e w' => e = .returned (.int .u64 (num ((l.drop at').take 8) : Nat)) ∧ RefIs w' r l (at' + 8) 0 ∧ w.grownBy w' (some r)) := by
    have := fixed_any r 8 at' 0 l (by decide) (by decide) w h
    obtain ⟨e1, e2, e3⟩ := fix_yes he
    rw [e1, e2, e3] at this
    exact this
  obtain ⟨ao, cap, h1, _⟩ := h
  have c1 : w.cell? ⟨r, 1, none⟩ = some (.int .i64 (at' : Nat)) := h1.cell 1
  clear h1
  generalize num ((l.drop at').take 8) = X at *
  have HI := hid' (fun w => none_any X hx w)
  go_enter Tryd.func64, Tryd.ntmps64
  go_upto_region 3 with (go_at_call 63; refine HX.out.mono ?_; rintro e w2 ⟨rfl, r2, g2⟩)
  have R2 := hid' r2
  obtain ⟨ao2, cap2, q1, _⟩ := r2
  have d2 : w2.cell? ⟨r, 2, none⟩ = some (.int .i64 0) := q1.cell 2
  clear q1 c1 HX
  by_cases hn : isN X
  · obtain rfl : X = 9221120237041090561 := by rcases hok with h | h; exact absurd hn h; exact h
    rw [decide_eq_true hn] at HI
    clear hn hok
    go_wp2_with (go_at_call 86; refine (HI.out _).mono ?_; rintro e w3 ⟨rfl, rfl⟩)
    go_ret2
    exact ⟨rfl, R2.out, g2⟩
  · rw [decide_eq_false hn] at HI
    clear hn hok
    go_wp2_with (go_at_call 86; refine (HI.out _).mono ?_; rintro e w3 ⟨rfl, rfl⟩)
    go_ret2
    exact ⟨rfl, R2.out, g2⟩
end Go.Proofs.YtomklacjaadcaaaDoor
