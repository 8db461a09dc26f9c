/- Contract of bodyLength. -/
import Derived.Test.YtomklacjaadcaaaDoorLow
namespace Go.Proofs.YtomklacjaadcaaaDoor
open Go.RowKit Go.Sort

def markN (l : List UInt8) : Nat := num (l.take 2)
def lenN (l : List UInt8) : Nat := num ((l.drop 2).take 2)
set_option maxRecDepth 20000 in
set_option maxHeartbeats 3200000 in
theorem blen_short (ao : Option Addr) (cap : Nat) (l : List UInt8) (h8 : l.length < 8) (w : World) :
    Calls Tryd.prog 69 #[.slice ao l.length cap] w fun e w' => e = .returned (.tuple #[.int .i64 0, .bool false]) ∧ w' = w := by
  go_enter Tryd.func69, Tryd.ntmps69
  go_wp2
  go_ret2
  exact ⟨rfl, rfl⟩
set_option maxRecDepth 20000 in
set_option maxHeartbeats 3200000 in
theorem blen_wrong (b off cap : Nat) (l : List UInt8) (h8 : 8 ≤ l.length) (hl : l.length ≤ 281474976710656) (hcap : l.length ≤ cap) (w : World) (hb : By w (some ⟨b, off, none⟩) l) (hm : markN l ≠ 25680) :
    Calls Tryd.prog 69 #[.slice (some ⟨b, off, none⟩) l.length cap] w fun e w' => e = .returned (.tuple #[.int .i64 0, .bool false]) ∧ w' = w := by
  have H1 := hid' (fun cap => number_at (cap := cap) (l := l.take 2) (n := 2) (by simp; omega) (by omega) (hb.head 2))
  unfold markN at hm
  generalize num (l.take 2) = M at *
  have hm' : ((M : Int) == 25680) = false := by simp; omega
  clear hb
  have hd : decide ((l.length : Int) < 8) = false := by simp; omega
  go_enter Tryd.func69, Tryd.ntmps69
  go_wp2_with (go_at_call 70; refine (H1.out _).mono ?_; rintro e w' ⟨rfl, rfl⟩)
  go_ret2
  exact ⟨rfl, rfl⟩
set_option maxRecDepth 20000 in
set_option maxHeartbeats 3200000 in
theorem blen_right (b off cap : Nat) (l : List UInt8) (h8 : 8 ≤ l.length) (hl : l.length ≤ 281474976710656) (hcap : l.length ≤ cap) (w : World) (hb : By w (some ⟨b, off, none⟩) l) (hm : markN l = 25680) :
    Calls Tryd.prog 69 #[.slice (some ⟨b, off, none⟩) l.length cap] w fun e w' => e = .returned (.tuple #[.int .i64 (lenN l : Nat), .bool (decide (lenN l ≤ 8184))]) ∧ w' = w := by
  have H1 : Hid (∀ cap, Calls Tryd.prog 70 #[.slice (some ⟨b, off, none⟩) 2 cap] w fun e w' => e = .returned (.int .u64 25680) ∧ w' = w) := by
    intro cap
    have := number_at (cap := cap) (l := l.take 2) (n := 2) (by simp; omega) (by omega) (hb.head 2)
    unfold markN at hm
    rw [hm] at this
    exact this
  have H2 := hid' (fun cap => number_at (cap := cap) (l := (l.drop 2).take 2) (n := 2) (by simp; omega) (by omega) (hb.piece 2 2))
  have hN := num_lt ((l.drop 2).take 2)
  rw [show ((l.drop 2).take 2).length = 2 from by simp; omega] at hN
  unfold lenN
  generalize num ((l.drop 2).take 2) = N at *
  clear hb hm
  have hd : decide ((l.length : Int) < 8) = false := by simp; omega
  go_enter Tryd.func69, Tryd.ntmps69
  go_upto_region 3 with (go_at_call 70; refine (H1.out _).mono ?_; rintro e w' ⟨rfl, rfl⟩)
  go_wp2_with (go_at_call 70; refine (H2.out _).mono ?_; rintro e w' ⟨rfl, rfl⟩)
  go_ret2
  refine ⟨?_, rfl⟩
  have e : decide (N ≤ 8184) = decide ((N : Int) ≤ 8184) := by rw [decide_eq_decide]; omega
  rw [e]
  rfl
end Go.Proofs.YtomklacjaadcaaaDoor
