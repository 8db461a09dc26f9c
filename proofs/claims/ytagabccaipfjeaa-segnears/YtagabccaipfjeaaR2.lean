/- Contracts of the reference's numbers: of, sign, other, number. -/
import Derived.Test.YtagabccaipfjeaaR1
namespace Go.Proofs.Ytagabccaipfjeaa
open Go.RowKit Go.Sort

def wd2 (v : Int) : List Int := [v % 4294967296, v / 4294967296]
theorem wd2_vals (v : Int) : vals (wd2 v) = v := by
  show 0 + (v % 4294967296) * 1 + (v / 4294967296) * (1 * 4294967296) = v
  omega
theorem wd2_isD {v : Int} (h0 : 0 ≤ v) (h1 : v ≤ 18446744073709551615) : ∀ d ∈ wd2 v, isD d := by
  intro d hd
  unfold wd2 at hd
  simp at hd
  unfold isD
  rcases hd with rfl | rfl <;> omega
theorem Rd.two (w : World) (x y : Int) (hd : ∀ d ∈ [x, y], isD d) : Rd (w.alloc (.cells #[.int .u32 x, .int .u32 y] 80)) (some ⟨w.heap.size, 0, none⟩) 2 [x, y] :=
  ⟨fun h => (by cases h), fun a ha => ⟨w.heap.size, #[.int .u32 x, .int .u32 y], (Option.some.inj ha).symm, heap_alloc_new w _, fun i hi => by
    have hi' : i < 2 := hi
    match i, hi' with
    | 0, _ => rfl
    | 1, _ => rfl⟩, Nat.le_refl _, by omega, hd⟩

set_option maxHeartbeats 1000000 in
theorem of_num (n : Int) (w : World) (h0 : -9223372036854775808 ≤ n) (h1 : n ≤ 9223372036854775807) :
    Calls Try.prog 45 #[.int .i64 n] w fun e w' => ∃ z, e = .returned z ∧ Nm w' z n 2 ∧ Gr w w' := by
  have ab := absI_bd h0 h1
  have hv := wd2_vals (absI n)
  have hD := wd2_isD ab.1 (by omega)
  have ea : absI n = n.natAbs := by unfold absI; split <;> omega
  have K : ∀ (s : Bool), s = decide (n < 0) → Hid (∀ (W : World), Calls Try.prog 57 #[.bool s, .slice (some ⟨W.heap.size, 0, none⟩) 2 2] (W.alloc (.cells #[.int .u32 (absI n % 4294967296), .int .u32 (absI n / 4294967296)] 80)) fun e w' => ∃ z, e = .returned z ∧ Nm w' z n 2 ∧ Gr (W.alloc (.cells #[.int .u32 (absI n % 4294967296), .int .u32 (absI n / 4294967296)] 80)) w') := by
    intro s hs W
    exact made_num s (some ⟨W.heap.size, 0, none⟩) 2 (wd2 (absI n)) n 2 _ (Rd.two W _ _ hD) (by rw [hv, ea]) (fun e => by rw [hs] at e; simp at e; omega) (fun e => by rw [hs] at e; simp at e; omega) (by simp [wd2])
  by_cases hn : n < 0
  · have K' := K true (by simp [hn])
    have e1 : absI n = -n := by unfold absI; rw [if_pos hn]
    rw [e1] at K' ab
    clear K hv hD ea e1
    have c1 : IntKind.u64.wrap n = 18446744073709551616 + n := by rw [IntKind.wrap_u64]; omega
    have c2 : IntKind.u64.wrap (-(18446744073709551616 + n)) = -n := by rw [IntKind.wrap_u64]; omega
    generalize hN : -n = N at *
    have c3 : N.tmod 4294967296 = N % 4294967296 := Int.tmod_eq_emod_of_nonneg ab.1
    have c4 : N.tdiv 4294967296 = N / 4294967296 := Int.tdiv_eq_ediv_of_nonneg ab.1
    have c5 : IntKind.u64.wrap (N / 4294967296) = N / 4294967296 := by rw [IntKind.wrap_u64]; omega
    have c6 : N % 4294967296 % 4294967296 = N % 4294967296 := by omega
    have c7 : N / 4294967296 % 4294967296 = N / 4294967296 := by omega
    generalize N % 4294967296 = U at *
    generalize N / 4294967296 = V at *
    go_enter Try.func45, Try.ntmps45
    go_wp2_with fail
    refine Calls.mono (by simpa only [World.size_alloc] using K'.out (w.alloc (.cells #[.bool false, .slice none 0 0] 51))) ?_
    rintro e w1 ⟨z, rfl, hz, q1⟩
    obtain ⟨r1, o1, l1, k1, rfl, hz1⟩ := hz.shape
    clear hz
    have hW := ((Wh.new w (.bool false) (.slice none 0 0)).gr ((Gr.refl _).alloc _)).gr q1
    have d0 := hW.c0
    have d1 := hW.c1
    have df := hW.f
    go_wp2
    refine bodyPost_ret (v := .agg #[.bool r1, .slice o1 l1 k1]) (by simp [results, Try.results45, go_sem, d0, d1]) rfl ⟨_, rfl, ?_, ?_⟩
    · exact hz1.out.setW hW _ _
    · exact (((((Gr.refl _).alloc _).alloc _).trans q1).setCell (by simp only []; omega) _).setCell (by simp only []; omega) _
  · have K' := K false (by simp [hn])
    have e1 : absI n = n := by unfold absI; rw [if_neg hn]
    rw [e1] at K' ab
    clear K hv hD ea e1
    have c1 : IntKind.u64.wrap n = n := by rw [IntKind.wrap_u64]; omega
    have c3 : n.tmod 4294967296 = n % 4294967296 := Int.tmod_eq_emod_of_nonneg ab.1
    have c4 : n.tdiv 4294967296 = n / 4294967296 := Int.tdiv_eq_ediv_of_nonneg ab.1
    have c5 : IntKind.u64.wrap (n / 4294967296) = n / 4294967296 := by rw [IntKind.wrap_u64]; omega
    have c6 : n % 4294967296 % 4294967296 = n % 4294967296 := by omega
    have c7 : n / 4294967296 % 4294967296 = n / 4294967296 := by omega
    generalize n % 4294967296 = U at *
    generalize n / 4294967296 = V at *
    go_enter Try.func45, Try.ntmps45
    go_wp2_with fail
    refine Calls.mono (by simpa only [World.size_alloc] using K'.out (w.alloc (.cells #[.bool false, .slice none 0 0] 51))) ?_
    rintro e w1 ⟨z, rfl, hz, q1⟩
    obtain ⟨r1, o1, l1, k1, rfl, hz1⟩ := hz.shape
    clear hz
    have hW := ((Wh.new w (.bool false) (.slice none 0 0)).gr ((Gr.refl _).alloc _)).gr q1
    have d0 := hW.c0
    have d1 := hW.c1
    have df := hW.f
    go_wp2
    refine bodyPost_ret (v := .agg #[.bool r1, .slice o1 l1 k1]) (by simp [results, Try.results45, go_sem, d0, d1]) rfl ⟨_, rfl, ?_, ?_⟩
    · exact hz1.out.setW hW _ _
    · exact (((((Gr.refl _).alloc _).alloc _).trans q1).setCell (by simp only []; omega) _).setCell (by simp only []; omega) _
end Go.Proofs.Ytagabccaipfjeaa
