/- Contracts of what the laws of layer 1 share: a number by the reference, and whether it is the program's. -/
import Derived.Test.YtgpkigofbncamaaDoorRound
namespace Go.Proofs.YtgpkigofbncamaaDoor
open Go.RowKit Go.Sort

set_option maxHeartbeats 1000000 in
theorem num_any (h l : Int) (w : World) (h0 : -9223372036854775808 ≤ h) (h1 : h ≤ 9223372036854775807) (h2 : 0 ≤ l) (h3 : l ≤ 18446744073709551615) :
    Calls Tryd.prog 7 #[.agg #[.int .i64 h, .int .u64 l]] w fun e w' => ∃ z, e = .returned z ∧ Nm w' z (h * 18446744073709551616 + l) ∧ Below w.heap.size w w' := by
  have k0 : Bk ((w.alloc (.cells #[.int .i64 h, .int .u64 l] 24)).alloc (.cells #[.bool false, .slice none 0 0] 31)) (w.heap.size + 1) (.bool false) (.slice none 0 0) := Bk.new' w _ _ _
  have hb0 := below2 w (.cells #[.int .i64 h, .int .u64 l] 24) (.cells #[.bool false, .slice none 0 0] 31)
  go_enter Tryd.func7, Tryd.ntmps7
  go_wp2_with fail
  refine (pair_num h l _ h0 h1 h2 h3).mono ?_
  rintro e w1 ⟨z, rfl, hz, hb1⟩
  obtain ⟨r, o, ln, c, rfl, hz'⟩ := hz.shape
  replace hb0 := hb0.trans (hb1.mono hb0.size)
  replace k0 := k0.mono hb1 k0.lt
  clear hz hb1
  have d0 := k0.c0
  have d1 := k0.c1
  have d2 := k0.f0
  have d3 := k0.f1
  go_wp2
  refine bodyPost_ret (v := .agg #[.bool r, .slice o ln c]) (by simp [results, Tryd.results7, go_sem, d0, d1]) rfl ⟨_, rfl, ?_, ?_⟩
  · exact (hz'.out.setBk k0 _).setBk (k0.set0 _) _
  · exact (hb0.setCell (by simp only []; omega) _).setCell (by simp only []; omega) _

set_option maxHeartbeats 1000000 in
theorem is_any (y : Value) (n : Int) (w : World) (hy : Nm w y n) (h0 : -p2 6000 < n) (h1 : n < p2 6000) :
    Calls Tryd.prog 10 #[.agg #[.int .i64 (hiI n), .int .u64 (loI n)], y] w fun e w' => e = .returned (.bool true) ∧ Below w.heap.size w w' := by
  obtain ⟨r, o, ln, c, rfl, hy'⟩ := hy.shape
  have hb0 := below2 w (.cells #[.int .i64 (hiI n), .int .u64 (loI n)] 25) (.cells #[.bool r, .slice o ln c] 31)
  have HY : Hid (Nm ((w.alloc (.cells #[.int .i64 (hiI n), .int .u64 (loI n)] 25)).alloc (.cells #[.bool r, .slice o ln c] 31)) (.agg #[.bool r, .slice o ln c]) n) := hy'.out.mono hb0
  clear hy hy'
  go_enter Tryd.func10, Tryd.ntmps10
  go_wp2_with fail
  refine (round_num _ n _ HY.out h0 h1).mono ?_
  rintro e w1 ⟨rfl, hb1⟩
  have q0 : w1.cell? ⟨w.heap.size, 0, none⟩ = some (.int .i64 (hiI n)) := below_cell (by go_simp) hb1
  have q1 : w1.cell? ⟨w.heap.size, 1, none⟩ = some (.int .u64 (loI n)) := below_cell (by go_simp) hb1
  replace hb0 := hb0.trans (hb1.mono hb0.size)
  clear hb1 HY
  go_wp2
  go_ret
  exact ⟨rfl, hb0⟩

theorem p63 : p2 63 = 9223372036854775808 := by decide

end Go.Proofs.YtgpkigofbncamaaDoor
