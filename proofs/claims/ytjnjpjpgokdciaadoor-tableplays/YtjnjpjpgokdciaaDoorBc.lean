/- OnesCount64 of the library; Count. -/
import Derived.Test.YtjnjpjpgokdciaaDoorPc
import Derived.Deep.LoopGhost
import Derived.Laws.Bits128
set_option linter.unusedSimpArgs false
set_option linter.unusedVariables false
namespace Go.Proofs.YtjnjpjpgokdciaaDoor
open Go.RowKit Go.Sort Go.Shelf

theorem ones_any (x : Nat) (hx : x < 18446744073709551616) (w : World) : Calls Tryd.prog 67 #[.int .u64 (x : Int)] w fun e w' => e = .returned (.int .i64 ((cnt (fun j => x.testBit j) 64 : Nat) : Int)) ∧ w' = w := by
  obtain ⟨y, hy, y1, y2, y3, y4, y5⟩ := add_up x hx
  have hc := cnt_le (fun j => x.testBit j) 64
  have e1 : o1 x < 18446744073709551616 := by
    have h1 : x / 2 &&& 6148914691236517205 ≤ 6148914691236517205 := Nat.and_le_right
    have h2 : x &&& 6148914691236517205 ≤ 6148914691236517205 := Nat.and_le_right
    unfold o1; omega
  have a1 : bits .and .u64 ((x : Int) / 2) 6148914691236517205 = ((x / 2 &&& 6148914691236517205 : Nat) : Int) := bits_and_u64_nat (x / 2) 6148914691236517205 (by omega) (by omega)
  have a2 : bits .and .u64 (x : Int) 6148914691236517205 = ((x &&& 6148914691236517205 : Nat) : Int) := bits_and_u64_nat x 6148914691236517205 (by omega) (by omega)
  have a3 : IntKind.u64.wrap (((x / 2 &&& 6148914691236517205 : Nat) : Int) + ((x &&& 6148914691236517205 : Nat) : Int)) = ((o1 x : Nat) : Int) := by
    rw [IntKind.wrap_u64]; unfold o1 at *; omega
  have e2 : o2 (o1 x) < 18446744073709551616 := by
    have h1 : o1 x / 4 &&& 3689348814741910323 ≤ 3689348814741910323 := Nat.and_le_right
    have h2 : o1 x &&& 3689348814741910323 ≤ 3689348814741910323 := Nat.and_le_right
    unfold o2; omega
  have b1 : bits .and .u64 (((o1 x : Nat) : Int) / 4) 3689348814741910323 = ((o1 x / 4 &&& 3689348814741910323 : Nat) : Int) := bits_and_u64_nat (o1 x / 4) 3689348814741910323 (by omega) (by omega)
  have b2 : bits .and .u64 ((o1 x : Nat) : Int) 3689348814741910323 = ((o1 x &&& 3689348814741910323 : Nat) : Int) := bits_and_u64_nat (o1 x) 3689348814741910323 (by omega) (by omega)
  have b3 : IntKind.u64.wrap (((o1 x / 4 &&& 3689348814741910323 : Nat) : Int) + ((o1 x &&& 3689348814741910323 : Nat) : Int)) = ((o2 (o1 x) : Nat) : Int) := by
    rw [IntKind.wrap_u64]; unfold o2 at *; omega
  have h3 : o2 (o1 x) ≤ 7378697629483820646 := by
    have h1 : o1 x / 4 &&& 3689348814741910323 ≤ 3689348814741910323 := Nat.and_le_right
    have h2 : o1 x &&& 3689348814741910323 ≤ 3689348814741910323 := Nat.and_le_right
    unfold o2; omega
  have c1 : IntKind.u64.wrap (((o2 (o1 x) : Nat) : Int) / 16 + ((o2 (o1 x) : Nat) : Int)) = ((o2 (o1 x) / 16 + o2 (o1 x) : Nat) : Int) := by
    rw [IntKind.wrap_u64]; omega
  have c2 : bits .and .u64 ((o2 (o1 x) / 16 + o2 (o1 x) : Nat) : Int) 1085102592571150095 = ((y : Nat) : Int) := by
    rw [← hy]; exact bits_and_u64_nat (o2 (o1 x) / 16 + o2 (o1 x)) 1085102592571150095 (by omega) (by omega)
  clear hy
  generalize o2 (o1 x) / 16 + o2 (o1 x) = q3 at *
  generalize o2 (o1 x) = q2 at *
  generalize (o1 x / 4 &&& 3689348814741910323) = r1 at *
  generalize (o1 x &&& 3689348814741910323) = r2 at *
  generalize o1 x = q1 at *
  generalize (x / 2 &&& 6148914691236517205) = r3 at *
  generalize (x &&& 6148914691236517205) = r4 at *
  generalize cnt (fun j => x.testBit j) 64 = R at *
  have d1 : IntKind.u64.wrap ((y : Int) + (y : Int) / 256) = ((y + y / 256 : Nat) : Int) := by rw [IntKind.wrap_u64]; omega
  generalize y + y / 256 = z at *
  have d2 : IntKind.u64.wrap ((z : Int) + (z : Int) / 65536) = ((z + z / 65536 : Nat) : Int) := by rw [IntKind.wrap_u64]; omega
  generalize z + z / 65536 = u at *
  have d3 : IntKind.u64.wrap ((u : Int) + (u : Int) / 4294967296) = ((u + u / 4294967296 : Nat) : Int) := by rw [IntKind.wrap_u64]; omega
  generalize u + u / 4294967296 = v at *
  have d4 : bits .and .i64 (v : Int) 127 = ((R : Nat) : Int) := by rw [i64_and127]; omega
  have d5 : IntKind.i64.wrap (v : Int) = (v : Int) := by rw [IntKind.wrap_i64]; omega
  clear e1 e2 h3 y1 y2 y3 hx
  go_enter Tryd.func67, Tryd.ntmps67
  go_wp2
  go_ret
  exact ⟨rfl, rfl⟩
def cntT (T : List Bool) : Nat := cnt (fun i => T.getD i false) T.length
theorem Rep.count {T : List Bool} {W : List Nat} (h : Rep T W) : cnt (bt W) (64 * W.length) = cntT T := by
  have hl := h.len
  obtain ⟨m, hm⟩ : ∃ m, 64 * W.length = T.length + m := ⟨64 * W.length - T.length, by omega⟩
  rw [hm, cnt_add, cnt_zero (n := m) (fun i _ => by rw [h.is, List.getD_eq_getElem?_getD, List.getElem?_eq_none (by omega)]; rfl)]
  exact cnt_congr (fun i _ => h.is i)
theorem cnt_word (W : List Nat) (k : Nat) : cnt (bt W) (64 * (k + 1)) = cnt (bt W) (64 * k) + cnt (fun j => (W.getD k 0).testBit j) 64 := by
  rw [show 64 * (k + 1) = 64 * k + 64 by omega, cnt_add]
  congr 1
  exact cnt_congr (fun i hi => (word_bt hi).symm)
theorem count_nil (v : Value) (w : World) (h : NoBits w v) : Calls Tryd.prog 30 #[v] w fun e w' => e = .returned (.int .i64 0) ∧ w' = w := by
  have A := hid0 (babsent_nil v w h)
  clear h
  go_enter Tryd.func30, Tryd.ntmps30
  go_wp2_with (go_at_call 50; refine A.out.mono ?_; rintro e w1 ⟨rfl, hw⟩; cases hw)
  go_ret
  exact ⟨rfl, rfl⟩
theorem count_any {w : World} {b g : Nat} {T : List Bool} {W : List Nat} (h : BitsIs w b g T W) : Calls Tryd.prog 30 #[pT b] w fun e w' => e = .returned (.int .i64 ((cntT T : Nat) : Int)) ∧ w' = w := by
  have A := hid0 (babsent_yes b w h.c0)
  have H := hid0 h
  have c2 := h.c2
  have hlen : W.length ≤ 1024 := by have := h.rep.len; have := h.most; omega
  have RC := hid0 h.rep.count
  clear h
  generalize hn : W.length = n at *
  have HN := hid0 hn
  clear hn
  go_enter Tryd.func30, Tryd.ntmps30
  go_wp2_with (go_at_call 50; refine A.out.mono ?_; rintro e w1 ⟨rfl, hw⟩; cases hw)
  go_loopg [3, 14] n (fun kx s3 s14 wr => ∃ k : Nat, s3 = .int .i64 ((cnt (bt W) (64 * k) : Nat) : Int) ∧ s14 = .int .i64 (k : Int) ∧ k ≤ n ∧ kx = n - k ∧ wr = w)
  case atStart => exact ⟨0, rfl, rfl, Nat.zero_le _, rfl, rfl⟩
  case round =>
    obtain ⟨k, rfl, rfl, hk, rfl, rfl⟩ := hrel
    by_cases hlt : k < n
    · have hlt' : (k : Int) < (n : Int) := by omega
      have cw := H.out.word (k := k) (by rw [HN.out]; exact hlt)
      have ON := hid0 (ones_any (W.getD k 0) (H.out.rep.word k) wr)
      have hw := cnt_word W k
      have hb1 := cnt_le (bt W) (64 * k)
      have hb2 := cnt_le (fun j => (W.getD k 0).testBit j) 64
      have HW : Hid (cnt (bt W) (64 * (k + 1)) = cnt (bt W) (64 * k) + cnt (fun j => (W.getD k 0).testBit j) 64) := hw
      clear hw
      generalize cnt (fun j => (W.getD k 0).testBit j) 64 = c at *
      generalize W.getD k 0 = X at *
      generalize cnt (bt W) (64 * k) = s at *
      have h64 : s ≤ 65536 := by omega
      have hc64 : c ≤ 64 := by omega
      clear hb1 hb2
      go_wp2_with (go_at_call 67; refine ON.out.mono ?_; rintro e w1 ⟨rfl, hw⟩; cases hw)
      go_roundg (n - (k + 1))
      case measure => omega
      case rel => exact ⟨k + 1, by rw [HW.out]; simp, by simp, by omega, rfl, rfl⟩
    · have hge : ¬ (k : Int) < (n : Int) := by omega
      obtain rfl : k = n := by omega
      rw [RC.out]
      go_wp2
      go_ret
      exact ⟨rfl, rfl⟩
end Go.Proofs.YtjnjpjpgokdciaaDoor
