/- Contracts of the program's numbers of digits. -/
import Derived.Test.YtgpkigofbncamaaDoorNumeral
import Derived.Test.YtgpkigofbncamaaDoorText
import Derived.Lib.AtoiErrMem
namespace Go.Proofs.YtgpkigofbncamaaDoor
open Go.RowKit Go.Sort Go.Lib Go.Proofs

set_option maxHeartbeats 1000000 in
theorem number_ok (l : List UInt8) (w : World) (h : ∀ c ∈ l, isDg c) (h0 : l ≠ []) (hl : l.length ≤ 60) (hv : dval 0 l ≤ 18446744073709551615) :
    Calls Tryd.prog 46 #[.string ⟨l.toArray⟩] w fun e w' => e = .returned (.tuple #[.int .u64 (dval 0 l : Nat), .bool true]) ∧ Below w.heap.size w w' := by
  have hsz : (⟨l.toArray⟩ : ByteArray).size = l.length := by simp [ByteArray.size]
  have HP := hid' (Tryd.strconv_ParseUint_10_at64_ok ⟨l.toArray⟩ (by omega) (dval 0 l) (by rw [parse_uint h h0, if_pos hv]))
  generalize dval 0 l = v at *
  go_enter Tryd.func46, Tryd.ntmps46
  go_upto_region 2 with (go_at_call 61; refine (HP.out _).mono ?_; rintro e w1 ⟨rfl, hw⟩)
  have hb : Below w.heap.size w w1 := by
    rcases hw with rfl | rfl
    · exact Below.refl _ _
    · exact bytesWorld_below _ _ _
  clear hw HP
  go_region
  go_wp2
  refine bodyPost_ret (v := .tuple #[.int .u64 v, .bool true]) (by simp [results, Tryd.results46, go_sem]) rfl ⟨rfl, hb.drew⟩

set_option maxHeartbeats 1000000 in
theorem number_range (l : List UInt8) (w : World) (h : ∀ c ∈ l, isDg c) (h0 : l ≠ []) (hl : l.length ≤ 60) (hv : 18446744073709551615 < dval 0 l) (ev : Value) (hev : w.cell? ⟨7, 0, none⟩ = some ev) (hev' : ev = .nilIface ∨ ∃ te pe, ev = .iface te pe) :
    Calls Tryd.prog 46 #[.string ⟨l.toArray⟩] w fun e w' => e = .returned (.tuple #[.int .u64 18446744073709551615, .bool false]) ∧ Below w.heap.size w w' := by
  have hsz : (⟨l.toArray⟩ : ByteArray).size = l.length := by simp [ByteArray.size]
  have HP := hid' (Tryd.strconv_ParseUint_10_at64_range ⟨l.toArray⟩ (by omega) (by rw [parse_uint h h0, if_neg (by omega)]) ev w hev hev')
  clear hev hev'
  go_enter Tryd.func46, Tryd.ntmps46
  go_upto_region 2 with (go_at_call 61; refine HP.out.mono ?_; rintro e w1 ⟨N, rfl, hN, hN', hb⟩)
  clear HP hN'
  go_region
  go_wp2
  refine bodyPost_ret (v := .tuple #[.int .u64 18446744073709551615, .bool false]) (by simp [results, Tryd.results46, go_sem]) rfl ⟨rfl, hb.drew⟩
/-! ### sizeOf -/
theorem dg48 : isDg 48 := by unfold isDg; decide
theorem dval48 (h : List UInt8) : dval 0 (48 :: h) = dval 0 h := by rw [dval_cons]; rfl
theorem run_take (h t : List UInt8) (c : Int) (hc : c = h.length) (w : World) : (Instr.slice 9 (.string ⟨(h ++ t).toArray⟩) none (some (.int .i64 c)) none).run Tryd.prog w = .ok (.string ⟨h.toArray⟩) w := by
  subst hc
  have hs : (⟨(h ++ t).toArray⟩ : ByteArray).size = h.length + t.length := by simp [ByteArray.size]
  rw [run_slice_string_to_if w 9 _ .i64 _ (by kernel_rfl), if_pos ⟨by omega, by omega⟩]
  congr 2
  apply ByteArray.ext
  simp
theorem run_drop (h t : List UInt8) (c : Int) (hc : c = h.length) (w : World) : (Instr.slice 9 (.string ⟨(h ++ t).toArray⟩) (some (.int .i64 c)) none none).run Tryd.prog w = .ok (.string ⟨t.toArray⟩) w := by
  subst hc
  have hs : (⟨(h ++ t).toArray⟩ : ByteArray).size = h.length + t.length := by simp [ByteArray.size]
  rw [run_slice_string_from_if w 9 _ .i64 _ (by kernel_rfl), if_pos ⟨by omega, by omega⟩, hs]
  congr 2
  apply ByteArray.ext
  simp

set_option maxHeartbeats 2000000 in
theorem sizeof_far (S : ByteArray) (hS : 39 < S.size) (w : World) :
    Calls Tryd.prog 21 #[.string S] w fun e w' => e = .returned (.tuple #[.agg #[.int .u64 0, .int .u64 0], .bool false]) ∧ Below w.heap.size w w' := by
  go_enter Tryd.func21, Tryd.ntmps21
  go_wp2
  refine bodyPost_ret (v := .tuple #[.agg #[.int .u64 0, .int .u64 0], .bool false]) (by simp [results, Tryd.results21, go_sem]) rfl ⟨rfl, ?_⟩
  exact ((Gr.refl _).alloc _).below

set_option maxHeartbeats 2000000 in
theorem sizeof_over (S : ByteArray) (h t : List UInt8) (hS : S = ⟨(h ++ t).toArray⟩) (ht : t.length = 19) (hh : 0 < h.length) (hh2 : h.length ≤ 20) (dh : ∀ c ∈ h, isDg c) (hv : 18446744073709551615 < dval 0 h) (w : World)
    (ev : Value) (hev : w.cell? ⟨7, 0, none⟩ = some ev) (hev' : ev = .nilIface ∨ ∃ te pe, ev = .iface te pe) :
    Calls Tryd.prog 21 #[.string S] w fun e w' => e = .returned (.tuple #[.agg #[.int .u64 0, .int .u64 0], .bool false]) ∧ Below w.heap.size w w' := by
  obtain ⟨c, hc⟩ : ∃ c, c = h.length := ⟨_, rfl⟩
  have hsz : (S.size : Int) = (c : Int) + 19 := by rw [hS]; simp [ByteArray.size]; omega
  have hc0 : 0 < (c : Int) := by omega
  have hc1 : (c : Int) ≤ 20 := by omega
  have RT := run_take h t c (by omega)
  rw [← hS] at RT
  have RA := fun w => run_string_add_lists (P := Tryd.prog) w [48] h (by simp) (by omega)
  have HN := hid' (number_range (48 :: h) (w.alloc (.cells #[.int .u64 0, .int .u64 0] 41)) (fun c hc => by rcases List.mem_cons.1 hc with rfl | hc; exact dg48; exact dh c hc) (by simp) (by simp; omega) (by rw [dval48]; exact hv) ev (below_cell hev ((Gr.refl _).alloc _).below) hev')
  have k0 := Bx.new w 41 (.int .u64 0) (.int .u64 0)
  have hG := (Below.refl w.heap.size w).alloc (Nat.le_refl _) (.cells #[.int .u64 0, .int .u64 0] 41)
  clear hev hev' hv dh hS hh hh2 ht hc
  go_enter Tryd.func21, Tryd.ntmps21
  go_upto_region 5 with (go_at_call 46; refine HN.out.mono ?_; rintro e w1 ⟨rfl, hb⟩)
  replace k0 := k0.mono hb k0.lt
  replace hG := hG.trans (hb.mono hG.size)
  have c0 := k0.c0
  have c1 := k0.c1
  have f0 := k0.f0
  have f1 := k0.f1
  clear hb HN
  go_wp2
  refine bodyPost_ret (v := .tuple #[.agg #[.int .u64 0, .int .u64 0], .bool false]) (by simp [results, Tryd.results21, go_sem, c0, c1]) rfl ⟨rfl, ?_⟩
  exact (hG.setCell (Nat.le_refl _) _).setCell (Nat.le_refl _) _

theorem sizeof_ok (S : ByteArray) (h t : List UInt8) (hS : S = ⟨(h ++ t).toArray⟩) (ht0 : 0 < t.length) (ht : t.length ≤ 19) (hht : h ≠ [] → t.length = 19) (hh2 : h.length ≤ 20) (dh : ∀ c ∈ h, isDg c) (dt : ∀ c ∈ t, isDg c) (hv : dval 0 h ≤ 18446744073709551615) (w : World) :
    Calls Tryd.prog 21 #[.string S] w fun e w' => e = .returned (.tuple #[.agg #[.int .u64 ((dval 0 (h ++ t) : Nat) / 18446744073709551616 : Int), .int .u64 ((dval 0 (h ++ t) : Nat) % 18446744073709551616 : Int)], .bool true]) ∧ Below w.heap.size w w' := by
  obtain ⟨c, hc⟩ : ∃ c, c = h.length := ⟨_, rfl⟩
  obtain ⟨n, hn⟩ : ∃ n, n = h.length + t.length := ⟨_, rfl⟩
  have hsz : (S.size : Int) = (n : Int) := by rw [hS]; simp [ByteArray.size]; omega
  have hn0 : (n : Int) ≤ 39 := by omega
  have hvt : dval 0 t ≤ 18446744073709551615 := by
    have h1 := dval_lt t dt
    have h2 : 10 ^ t.length ≤ 10 ^ 19 := Nat.pow_le_pow_right (by omega) ht
    have h3 : 10 ^ 19 = 10000000000000000000 := by decide
    omega
  have HV : Hid (((dval 0 (h ++ t) : Nat) : Int) = (dval 0 h : Int) * 10000000000000000000 + (dval 0 t : Int)) := by
    unfold Hid
    rw [dval_app, dval_acc]
    by_cases e : h = []
    · subst e; rw [dval_nil]; simp
    · rw [hht e]; simp
  have HN1 := hid' (number_ok (48 :: h) (w.alloc (.cells #[.int .u64 0, .int .u64 0] 41)) (fun c hc => by rcases List.mem_cons.1 hc with rfl | hc; exact dg48; exact dh c hc) (by simp) (by simp; omega) (by rw [dval48]; exact hv))
  rw [dval48] at HN1
  have HN2 := hid' (fun w => number_ok t w dt (List.length_pos_iff.1 ht0) (by omega) hvt)
  have hA : Hid (0 ≤ (dval 0 h : Int) * 10000000000000000000 / 18446744073709551616 ∧ (dval 0 h : Int) * 10000000000000000000 / 18446744073709551616 < 18446744073709551615 ∧ 0 ≤ (dval 0 h : Int) * 10000000000000000000 % 18446744073709551616 ∧ (dval 0 h : Int) * 10000000000000000000 % 18446744073709551616 ≤ 18446744073709551615) := by
    unfold Hid; omega
  have k0 := Bx.new w 41 (.int .u64 0) (.int .u64 0)
  have hG := (Below.refl w.heap.size w).alloc (Nat.le_refl _) (.cells #[.int .u64 0, .int .u64 0] 41)
  have RT := run_take h t c (by omega)
  have RD := run_drop h t c (by omega)
  rw [← hS] at RT RD
  have RA := fun w => run_string_add_lists (P := Tryd.prog) w [48] h (by simp) (by omega)
  have hvt' : (dval 0 t : Int) ≤ 18446744073709551615 := by omega
  have hvh' : (dval 0 h : Int) ≤ 18446744073709551615 := by omega
  have hcs : ((c : Int) = 0 ∧ (n : Int) ≤ 19) ∨ (0 < (c : Int) ∧ (n : Int) = c + 19) := by
    by_cases e : h = []
    · left; rw [e] at hc hn; rw [List.length_nil] at hc hn; omega
    · right; have := hht e; have := List.length_pos_iff.2 e; omega
  clear hS hht hh2 dh dt hc ht ht0 hn
  generalize dval 0 (h ++ t) = V at *
  generalize dval 0 h = H at *
  generalize dval 0 t = T at *
  clear hv hvt
  rcases hcs with ⟨e1, e2⟩ | ⟨e1, e2⟩
  · rw [e1] at RT RD
    clear e1 c
    have hmx : max 0 ((n : Int) - 19) = 0 := by omega
    go_enter Tryd.func21, Tryd.ntmps21
    go_upto_region 5 with (go_at_call 46; refine HN1.out.mono ?_; rintro e w1 ⟨rfl, hb⟩)
    replace k0 := k0.mono hb k0.lt
    replace hG := hG.trans (hb.mono hG.size)
    clear hb HN1 RT RA
    go_upto_region 8 with (go_at_call 46; refine (HN2.out _).mono ?_; rintro e w2 ⟨rfl, hb⟩)
    replace k0 := k0.mono hb k0.lt
    replace hG := hG.trans (hb.mono hG.size)
    clear hb HN2 RD
    have HM := hid' (mul64_any (H : Int) 10000000000000000000 w2 (by omega) (by omega) (by omega) (by omega))
    unfold mulH mulL at HM
    go_upto_region 9 with (go_at_call 47; refine HM.out.mono ?_; rintro e w3 ⟨rfl, rfl⟩)
    clear HM
    have HP := hid' (splus_any ((H : Int) * 10000000000000000000 / 18446744073709551616) ((H : Int) * 10000000000000000000 % 18446744073709551616) (T : Int) w3 hA.out.1 hA.out.2.1 hA.out.2.2.1 hA.out.2.2.2 (by omega) (by omega))
    rw [join, ← HV.out] at HP
    generalize (H : Int) * 10000000000000000000 = HH at *
    go_wp2_with (go_at_call 48; refine HP.out.mono ?_; rintro e w4 ⟨rfl, g4⟩; have k4 := k0.gr g4; have c0 := k4.c0; have c1 := k4.c1; have f0 := k4.f0; have f1 := k4.f1)
    refine bodyPost_ret (v := .tuple #[.agg #[.int .u64 ((V : Int) / 18446744073709551616), .int .u64 ((V : Int) % 18446744073709551616)], .bool true]) (by simp [results, Tryd.results21, go_sem, c0, c1]) rfl ⟨rfl, ?_⟩
    exact ((hG.trans (g4.below.mono hG.size)).setCell (Nat.le_refl _) _).setCell (Nat.le_refl _) _
  · rw [e2] at hsz
    go_enter Tryd.func21, Tryd.ntmps21
    go_upto_region 5 with (go_at_call 46; refine HN1.out.mono ?_; rintro e w1 ⟨rfl, hb⟩)
    replace k0 := k0.mono hb k0.lt
    replace hG := hG.trans (hb.mono hG.size)
    clear hb HN1 RT RA
    go_upto_region 8 with (go_at_call 46; refine (HN2.out _).mono ?_; rintro e w2 ⟨rfl, hb⟩)
    replace k0 := k0.mono hb k0.lt
    replace hG := hG.trans (hb.mono hG.size)
    clear hb HN2 RD
    have HM := hid' (mul64_any (H : Int) 10000000000000000000 w2 (by omega) (by omega) (by omega) (by omega))
    unfold mulH mulL at HM
    go_upto_region 9 with (go_at_call 47; refine HM.out.mono ?_; rintro e w3 ⟨rfl, rfl⟩)
    clear HM
    have HP := hid' (splus_any ((H : Int) * 10000000000000000000 / 18446744073709551616) ((H : Int) * 10000000000000000000 % 18446744073709551616) (T : Int) w3 hA.out.1 hA.out.2.1 hA.out.2.2.1 hA.out.2.2.2 (by omega) (by omega))
    rw [join, ← HV.out] at HP
    generalize (H : Int) * 10000000000000000000 = HH at *
    go_wp2_with (go_at_call 48; refine HP.out.mono ?_; rintro e w4 ⟨rfl, g4⟩; have k4 := k0.gr g4; have c0 := k4.c0; have c1 := k4.c1; have f0 := k4.f0; have f1 := k4.f1)
    refine bodyPost_ret (v := .tuple #[.agg #[.int .u64 ((V : Int) / 18446744073709551616), .int .u64 ((V : Int) % 18446744073709551616)], .bool true]) (by simp [results, Tryd.results21, go_sem, c0, c1]) rfl ⟨rfl, ?_⟩
    exact ((hG.trans (g4.below.mono hG.size)).setCell (Nat.le_refl _) _).setCell (Nat.le_refl _) _
end Go.Proofs.YtgpkigofbncamaaDoor
