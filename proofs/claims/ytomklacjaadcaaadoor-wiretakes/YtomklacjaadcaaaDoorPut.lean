/- Contract of Put of a number of 16 bits, where there is room. -/
import Derived.Test.YtomklacjaadcaaaDoorLay
import Derived.Test.YtomklacjaadcaaaDoorWid
namespace Go.Proofs.YtomklacjaadcaaaDoor
open Go.RowKit Go.Sort

theorem lay_at {o : Nat} {away : Value} {pc used n : Nat} {last b : List UInt8} (hl : last.length = 128) {a : Addr} {cap : Nat} (hn : b.length = n) (hb0 : 0 < n) (hfit : used + n ≤ 128) {w : World} (hR : Row w o 29 (outL away pc last used)) (hB : By w (some a) b) :
    Calls Tryd.prog 74 #[.pointer (some ⟨o, 0, none⟩), .slice (some a) n cap] w fun e w' => e = .returned (.tuple #[]) ∧ Row w' o 29 (outL away pc (spl last used b) (used + n)) ∧ w.grownBy w' (some o) := by
  subst hn; exact lay_fit o away pc used last b hl a cap hb0 hfit w hR hB
theorem zeros8 (v n : Nat) (hn : n ≤ 8) (w : World) (g : Nat) (t : TypeId) (L : List Value) (hL : L.length = 8) (h : Row w g t (splice L 0 (bc (lows v n)))) : By w (some ⟨g, 0, none⟩) (lows v n) := by
  refine h.by 0 _ fun i hi => ?_
  rw [splice_at_in L 0 _ (by rw [bc_len, lows_len]; omega) i (by rw [bc_len]; exact hi)]
  exact bc_at hi
theorem grown_new2 {w W a b : World} {o : Nat} (hw : w.heap.size < W.heap.size) (h : W.drew.grownBy a (some w.heap.size)) (k : a.grownBy b (some o)) (g1 : w.grownBy W (some o)) : w.grownBy b (some o) :=
  ⟨k.os.trans (h.os.trans g1.os), k.tape.trans (h.tape.trans g1.tape), k.output.trans (h.output.trans g1.output), Nat.le_trans g1.size (Nat.le_trans h.size k.size), fun i hi hr =>
    (k.block i (Nat.lt_of_lt_of_le (Nat.lt_trans hi hw) h.size) hr).trans ((h.block i (Nat.lt_trans hi hw) (by intro e; cases e; omega)).trans (g1.block i hi hr))⟩
set_option maxRecDepth 20000 in
set_option maxHeartbeats 3200000 in
theorem put16_fit (o : Nat) (away : Value) (pc used : Nat) (last : List UInt8) (hl : last.length = 128) (v : Nat) (hv : v < 65536) (hfit : used + 2 ≤ 128) (w : World) (hR : Row w o 29 (outL away pc last used)) :
    Calls Tryd.prog 32 #[.pointer (some ⟨o, 0, none⟩), .int .u16 v] w fun e w' => e = .returned (.tuple #[]) ∧ Row w' o 29 (outL away pc (spl last used (lows v 2)) (used + 2)) ∧ w.grownBy w' (some o) := by
  have HR := hid' hR
  have ho := hR.lt
  clear hR
  go_enter Tryd.func32, Tryd.ntmps32
  go_upto_region 1 with fail
  have rz := Row.new w 129 [.int .u8 0, .int .u8 0, .int .u8 0, .int .u8 0, .int .u8 0, .int .u8 0, .int .u8 0, .int .u8 0]
  have ro := HR.out.alloc (.cells #[.int .u8 0, .int .u8 0, .int .u8 0, .int .u8 0, .int .u8 0, .int .u8 0, .int .u8 0, .int .u8 0] 129)
  have g1 := World.grownBy_alloc w (.cells #[.int .u8 0, .int .u8 0, .int .u8 0, .int .u8 0, .int .u8 0, .int .u8 0, .int .u8 0, .int .u8 0] 129) (some o)
  generalize hW : w.alloc (.cells #[.int .u8 0, .int .u8 0, .int .u8 0, .int .u8 0, .int .u8 0, .int .u8 0, .int .u8 0, .int .u8 0] 129) = W at *
  have rz' : ∃ L, Row W w.heap.size 129 L ∧ L.length = 8 := ⟨_, rz, rfl⟩
  clear rz hW
  obtain ⟨L, rz', hL⟩ := rz'
  have hwv : IntKind.u64.wrap (v : Int) = (v : Int) := by rw [IntKind.wrap_u64]; omega
  have H67 : Hid (Calls Tryd.prog 67 #[.slice (some ⟨w.heap.size, 0, none⟩) 0 8, .int .u64 v, .int .i64 2] W.drew fun e w' => e = .returned (.slice (some ⟨w.heap.size, 0, none⟩) 2 8) ∧ Row w' w.heap.size 129 (splice L 0 (bc (lows v 2))) ∧ W.drew.grownBy w' (some w.heap.size)) :=
    lowest_any w.heap.size 0 0 8 129 L v 2 (by omega) (by decide) (by decide) (by decide) (by omega) W.drew rz'
  have H74 : Hid (∀ w2, Row w2 w.heap.size 129 (splice L 0 (bc (lows v 2))) → W.drew.grownBy w2 (some w.heap.size) → Calls Tryd.prog 74 #[.pointer (some ⟨o, 0, none⟩), .slice (some ⟨w.heap.size, 0, none⟩) 2 8] w2 fun e w' => e = .returned (.tuple #[]) ∧ Row w' o 29 (outL away pc (spl last used (lows v 2)) (used + 2)) ∧ w2.grownBy w' (some o)) := fun w2 r2 g2 =>
    lay_at hl (lows_len 2 v) (by decide) hfit (Row.grown (w := W) ro ⟨g2.os, g2.tape, g2.output, g2.size, g2.block⟩ (by intro e; cases e; omega)) (zeros8 v 2 (by decide) w2 _ _ L hL r2)
  go_region_with (first
    | (go_at_call 75; refine (width75 _).mono ?_; rintro e w1 ⟨rfl, rfl⟩)
    | (go_at_call 67; refine H67.out.mono ?_; rintro e w2 ⟨rfl, r2, g2⟩)
    | (go_at_call 74; refine (H74.out _ r2 g2).mono ?_; rintro e w3 ⟨rfl, r3, g3⟩))
  all_goals go_end0
  all_goals exact ⟨rfl, r3, grown_new2 rz'.lt g2 g3 g1⟩
end Go.Proofs.YtomklacjaadcaaaDoor
