/- Contracts of the sum: goOn, sum. -/
import Derived.Test.YtomklacjaadcaaaDoorBase
import Derived.Test.YtomklacjaadcaaaDoorCrcP
import Derived.OwnWalk
import Derived.Laws.BitsAllLaws
import Derived.Lib.LaidTab
namespace Go.Proofs.YtomklacjaadcaaaDoor
open Go.RowKit Go.Sort

theorem gRem : Tryd.prog.globalNamed "paddock/wire.remainders" = some 1 := by kernel_rfl
/-- The table lies there. -/
def RemIs (w : World) : Prop := ∀ i, i < 16 → w.cell? ⟨1, i, none⟩ = some (.int .u32 (rem.getD i 0 : Nat))
theorem RemIs.mono {w w' : World} (h : RemIs w) (g : Below w.heap.size w w') : RemIs w' := fun i hi => below_cell (h i hi) g
/-- A slice of bytes. -/
def By (w : World) (ao : Option Addr) (l : List UInt8) : Prop := ∀ i, i < l.length → ∃ b off, ao = some ⟨b, off, none⟩ ∧ w.cell? ⟨b, off + i, none⟩ = some (.int .u8 ((l.getD i 0).toNat : Nat))
theorem By.mono {w w' : World} {ao : Option Addr} {l : List UInt8} (h : By w ao l) (g : Below w.heap.size w w') : By w' ao l := fun i hi => by
  obtain ⟨b, off, e, hc⟩ := h i hi
  exact ⟨b, off, e, below_cell hc g⟩
theorem crc_step (c : Nat) (l : List UInt8) (k : Nat) (h : k < l.length) : crcGo c (l.take (k + 1)) = whole (crcGo c (l.take k) ^^^ (l.getD k 0).toNat) := by
  rw [List.take_add_one, List.getElem?_eq_getElem h, crcGo_append]
  simp [List.getD, h, crcGo]
set_option maxRecDepth 20000 in
set_option maxHeartbeats 3200000 in
theorem goOn_any (c : Nat) (hc : c < 4294967296) (ao : Option Addr) (cap : Nat) (l : List UInt8) (w : World) (hl : l.length ≤ 281474976710656) (hb : By w ao l) (hR : RemIs w) :
    Calls Tryd.prog 89 #[.int .u32 c, .slice ao l.length cap] w fun e w' => e = .returned (.int .u32 (crcGo c l : Nat)) ∧ w' = w := by
  have HB := hid' hb
  have HR := hid' hR
  clear hb hR
  go_enter Tryd.func89, Tryd.ntmps89
  go_wp2
  go_loop [0, 9] (fun vc vi => ∃ k : Nat, k ≤ l.length ∧ vi = .int .i64 k ∧ vc = .int .u32 (crcGo c (l.take k) : Nat)) (fun _ vi => l.length - (intOf vi).toNat)
  case atStart => exact ⟨0, by omega, rfl, rfl⟩
  case round =>
    obtain ⟨k, hk, rfl, rfl⟩ := hrel
    by_cases hlt : k < l.length
    · obtain ⟨b, off, rfl, r1⟩ := HB.out k hlt
      have HS := hid' (crc_step c l k hlt)
      have hC := crcGo_lt (l.take k) hc
      have hX := (l.getD k 0).toNat_lt
      generalize (l.getD k 0).toNat = X at *
      generalize crcGo c (l.take k) = C at *
      have e1 : bits .xor .u32 (C : Int) ((X : Int) % 4294967296) = ((C ^^^ X : Nat) : Int) := by
        rw [show (X : Int) % 4294967296 = (X : Int) from by omega]; exact u32_xor_nat C X hC (by omega)
      have e1' : bits .xor .u32 (C : Int) (X : Int) = ((C ^^^ X : Nat) : Int) := u32_xor_nat C X hC (by omega)
      have hD : C ^^^ X < 4294967296 := xor_lt32 hC (by omega)
      unfold whole at HS
      generalize C ^^^ X = D at *
      have e2 : bits .and .u32 (D : Int) 15 = ((D % 16 : Nat) : Int) := by
        have := u32_and_nat D 15 hD (by decide)
        rw [show (15 : Nat) = 2 ^ 4 - 1 from rfl, Nat.and_two_pow_sub_one_eq_mod] at this
        exact this
      have r2 := HR.out (D % 16) (Nat.mod_lt _ (by decide))
      have hm2 : D % 16 < 16 := Nat.mod_lt _ (by decide)
      have hr2 := rem_lt' hm2
      have hF := half_lt hD
      have e3 : bits .xor .u32 ((D : Int) / 16) ((rem.getD (D % 16) 0 : Nat) : Int) = ((half D : Nat) : Int) := by
        have := u32_xor_nat (D / 16) _ (by omega) hr2
        rw [show ((D / 16 : Nat) : Int) = (D : Int) / 16 from by omega] at this
        exact this
      generalize rem.getD (D % 16) 0 = R at *
      generalize half D = F at *
      have e4 : bits .and .u32 (F : Int) 15 = ((F % 16 : Nat) : Int) := by
        have := u32_and_nat F 15 hF (by decide)
        rw [show (15 : Nat) = 2 ^ 4 - 1 from rfl, Nat.and_two_pow_sub_one_eq_mod] at this
        exact this
      have r3 := HR.out (F % 16) (Nat.mod_lt _ (by decide))
      have hm3 : F % 16 < 16 := Nat.mod_lt _ (by decide)
      have hr3 := rem_lt' hm3
      have e5 : bits .xor .u32 ((F : Int) / 16) ((rem.getD (F % 16) 0 : Nat) : Int) = ((half F : Nat) : Int) := by
        have := u32_xor_nat (F / 16) _ (by omega) hr3
        rw [show ((F / 16 : Nat) : Int) = (F : Int) / 16 from by omega] at this
        exact this
      generalize rem.getD (F % 16) 0 = R3 at *
      generalize half F = G at *
      go_wp2
      go_round
      case rel => exact ⟨k + 1, by omega, by go_num, by rw [HS.out]⟩
      case measure => simp [intOf]; omega
    · have hkn : k = l.length := by omega
      subst hkn
      go_wp2
      go_ret
      exact ⟨rfl, rfl⟩
def sumP (a b : List UInt8) : Nat := 4294967295 ^^^ crcGo 4294967295 (a ++ b)
set_option maxRecDepth 20000 in
set_option maxHeartbeats 3200000 in
theorem sum_any (ao : Option Addr) (cap : Nat) (l : List UInt8) (ao2 : Option Addr) (cap2 : Nat) (l2 : List UInt8) (w : World) (hl : l.length ≤ 281474976710656) (hb : By w ao l) (hl2 : l2.length ≤ 281474976710656) (hb2 : By w ao2 l2) (hR : RemIs w) :
    Calls Tryd.prog 68 #[.slice ao l.length cap, .slice ao2 l2.length cap2] w fun e w' => e = .returned (.int .u32 (sumP l l2 : Nat)) ∧ w' = w := by
  have H1 := hid' (goOn_any 4294967295 (by decide) ao cap l w hl hb hR)
  have hlt := crcGo_lt l (c := 4294967295) (by decide)
  have H2 := hid' (goOn_any (crcGo 4294967295 l) hlt ao2 cap2 l2 w hl2 hb2 hR)
  have hlt2 := crcGo_lt l2 hlt
  have HE : Hid (sumP l l2 = 4294967295 ^^^ crcGo (crcGo 4294967295 l) l2) := by show _ = _; unfold sumP; rw [crcGo_append]
  clear hb hb2 hR
  generalize crcGo (crcGo 4294967295 l) l2 = D at *
  generalize crcGo 4294967295 l = C at *
  go_enter Tryd.func68, Tryd.ntmps68
  go_wp2_with (first
    | (go_at_call_of 89 (Value.int IntKind.u32 4294967295); refine H1.out.mono ?_; rintro e w' ⟨rfl, rfl⟩)
    | (go_at_call 89; refine H2.out.mono ?_; rintro e w' ⟨rfl, rfl⟩))
  go_ret
  refine ⟨?_, rfl⟩
  rw [HE.out, ← u32_xor_nat _ _ (by decide) hlt2]
  rfl
theorem sumP_lt (a b : List UInt8) : sumP a b < 4294967296 := xor_lt32 (by decide) (crcGo_lt _ (by decide))
theorem sumP_inj {a b a' b' : List UInt8} (h : sumP a b = sumP a' b') : crcGo 4294967295 (a ++ b) = crcGo 4294967295 (a' ++ b') := by
  unfold sumP at h
  have := congrArg (4294967295 ^^^ ·) h
  simpa [← Nat.xor_assoc, Nat.xor_self, Nat.zero_xor] using this
end Go.Proofs.YtomklacjaadcaaaDoor
