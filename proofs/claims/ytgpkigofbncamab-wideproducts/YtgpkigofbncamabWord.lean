/- Contracts of the program's numbers of 64 bits as numbers of 128, and whether 64 bits hold one. -/
import Derived.Test.YtgpkigofbncamabWide
import Derived.BigQuiet
namespace Go.Proofs.Ytgpkigofbncamab
open Go.RowKit Go.Sort

theorem of_lo (v : Int) : IntKind.u64.wrap v = loI v := by rw [IntKind.wrap_u64]; rfl
theorem of_hi {v : Int} (h0 : -9223372036854775808 ≤ v) (h1 : v ≤ 9223372036854775807) : v / 9223372036854775808 = hiI v := by unfold hiI; omega

set_option maxHeartbeats 400000 in
theorem wof_any (v : Int) (w : World) (h0 : -9223372036854775808 ≤ v) (h1 : v ≤ 9223372036854775807) :
    Calls Try.prog 6 #[.int .i64 v] w fun e w' => e = .returned (.agg #[.int .i64 (hiI v), .int .u64 (loI v)]) ∧ Gr w w' := by
  have e1 : Hid (v / 9223372036854775808 = hiI v) := of_hi h0 h1
  go_enter Try.func6, Try.ntmps6
  go_wp2
  refine bodyPost_ret (v := .agg #[.int .i64 (hiI v), .int .u64 (loI v)]) (by simp [results, Try.results6, go_sem, of_lo, e1.out]) rfl ⟨rfl, ?_⟩
  exact (Gr.refl _).alloc _

theorem low_in (m : Int) : -9223372036854775808 ≤ wrap64 (loI m) ∧ wrap64 (loI m) ≤ 9223372036854775807 := by unfold wrap64; omega
theorem low_lo (m : Int) : loI (wrap64 (loI m)) = loI m := by unfold loI wrap64; omega
theorem low_hi {m : Int} (hm : inI m) : hiI (wrap64 (loI m)) = hiI m ↔ (-9223372036854775808 ≤ m ∧ m ≤ 9223372036854775807) := by unfold inI hiI loI wrap64 at *; omega
theorem low_same {m : Int} (h : -9223372036854775808 ≤ m ∧ m ≤ 9223372036854775807) : wrap64 (loI m) = m := by unfold loI wrap64; omega

set_option maxHeartbeats 1000000 in
theorem int64_any (m : Int) (hm : inI m) (w : World) :
    Calls Try.prog 9 #[.agg #[.int .i64 (hiI m), .int .u64 (loI m)]] w fun e w' => e = .returned (.tuple #[.int .i64 (if -9223372036854775808 ≤ m ∧ m ≤ 9223372036854775807 then m else 0), .bool (decide (-9223372036854775808 ≤ m ∧ m ≤ 9223372036854775807))]) ∧ Gr w w' := by
  obtain ⟨b1, b2⟩ := low_in m
  have f1 : (loI (wrap64 (loI m)) == loI m) = true := by rw [low_lo]; simp
  have k0 := cell_grown (w := w.alloc (Obj.cells #[Value.int IntKind.i64 (hiI m), Value.int IntKind.u64 (loI m)] 24)) (a := ⟨w.heap.size, 0, none⟩) (v := .int .i64 (hiI m)) (by simp) (by simp)
  have k1 := cell_grown (w := w.alloc (Obj.cells #[Value.int IntKind.i64 (hiI m), Value.int IntKind.u64 (loI m)] 24)) (a := ⟨w.heap.size, 1, none⟩) (v := .int .u64 (loI m)) (by simp) (by simp)
  by_cases hr : -9223372036854775808 ≤ m ∧ m ≤ 9223372036854775807
  · have f2 : (hiI (wrap64 (loI m)) == hiI m) = true := by rw [(low_hi hm).2 hr]; simp
    have E : Hid (wrap64 (loI m) = m) := low_same hr
    rw [if_pos hr, decide_eq_true hr]
    clear hr hm
    go_enter Try.func9, Try.ntmps9
    go_wp2
    have hG : Gr w (w.alloc (Obj.cells #[Value.int IntKind.i64 (hiI m), Value.int IntKind.u64 (loI m)] 24)) := (Gr.refl _).alloc _
    generalize w.alloc (Obj.cells #[Value.int IntKind.i64 (hiI m), Value.int IntKind.u64 (loI m)] 24) = W at *
    refine wp_region_quiet_grown (by kernel_rfl) (by kernel_rfl) ?_
    repeat (go_big_quiet_step ((go_at_call 6; refine Calls.grown_of (wof_any _ _ b1 b2))))
    refine wpQuiet_nil ?_
    intro _ hw'
    obtain ⟨⟨nq, osq⟩, hw''⟩ := hw'
    subst hw''
    go_wp2
    go_ret2
    exact ⟨by rw [E.out]; rfl, hG.trans ⟨_, _, rfl⟩⟩
  · have f2 : (hiI (wrap64 (loI m)) == hiI m) = false := by
      rw [beq_eq_false_iff_ne]; exact fun e => hr ((low_hi hm).1 e)
    rw [if_neg hr, decide_eq_false hr]
    clear hr hm
    go_enter Try.func9, Try.ntmps9
    go_wp2
    have hG : Gr w (w.alloc (Obj.cells #[Value.int IntKind.i64 (hiI m), Value.int IntKind.u64 (loI m)] 24)) := (Gr.refl _).alloc _
    generalize w.alloc (Obj.cells #[Value.int IntKind.i64 (hiI m), Value.int IntKind.u64 (loI m)] 24) = W at *
    refine wp_region_quiet_grown (by kernel_rfl) (by kernel_rfl) ?_
    repeat (go_big_quiet_step ((go_at_call 6; refine Calls.grown_of (wof_any _ _ b1 b2))))
    refine wpQuiet_nil ?_
    intro _ hw'
    obtain ⟨⟨nq, osq⟩, hw''⟩ := hw'
    subst hw''
    go_wp2
    go_ret2
    exact ⟨rfl, hG.trans ⟨_, _, rfl⟩⟩
end Go.Proofs.Ytgpkigofbncamab
