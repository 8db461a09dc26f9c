/- The library lays the digits of 1500000000000000 into a block of its own, and finds where the noughts begin. -/
import Derived.Test.YtmkechhjgdanmaaGreatDoorBase
import Derived.Test.YtmkechhjgdanmaaGreatDoorShelf
import Derived.Lib.Walk
import Derived.Lib.ItoaMem
namespace Go.Proofs.YtmkechhjgdanmaaGreatDoor
open Go.Shelf Go.RowKit Go.Sort Go.Lib

theorem Gr.putRow {α : Type} [Inhabited α] {w w' : World} (h : Gr w w') (enc : α → Value) (blk off : Nat) (d : Array α) (hb : w.heap.size ≤ blk) : Gr w (putRow enc w' blk off d) := by
  obtain ⟨q, os, rfl⟩ := h
  obtain ⟨os', _, e⟩ := putRow_grow_new enc (w.drewN q) os blk off d hb
  exact ⟨q, os', e⟩
/-- A block of 32 bytes that are 0. -/
def Z32 (w : World) (b : Nat) : Prop := ∀ j, j < 32 → w.cell? ⟨b, j, none⟩ = some (.int .u8 0) ∧ w.frozen? ⟨b, j, none⟩ = false
theorem Z32.holds {w : World} {b : Nat} (h : Z32 w b) : Holds (fun (b : UInt8) => Value.int .u8 (b.toNat : Int)) w b 0 (Array.replicate 16 (0 : UInt8)) := fun j hj => by
  have hj' : j < 16 := by simpa using hj
  have := h j (by omega)
  rw [Nat.zero_add, getElem!_pos _ j hj]
  simpa using this
theorem dg_at {dk : Array UInt8} {v' : Nat} (h : FmtInv 16 1500000000000000 0 v' dk) : ∀ j, j < 16 → (dk[j]!).toNat = if j = 0 then 49 else if j = 1 then 53 else 48 := fun j hj => by
  rw [h.done j (Nat.zero_le _) hj]
  have : ∀ j : Fin 16, (dg 1500000000000000 (16 - 1 - j.1)).toNat = if j.1 = 0 then 49 else if j.1 = 1 then 53 else 48 := by decide
  exact this ⟨j, hj⟩
set_option maxRecDepth 20000 in
set_option maxHeartbeats 3200000 in
theorem lv115 (B : Nat) (w : World) (hB : Z32 w B) :
    Calls Tryz.prog 115 #[.slice (some ⟨B, 0, none⟩) 32 32, .int .u64 1500000000000000, .int .i64 (-15), .int .i64 16] w fun e w' =>
      e = .returned (.tuple #[.int .i64 1, .int .i64 2]) ∧ w'.cell? ⟨B, 0, none⟩ = some (.int .u8 49) ∧ w'.cell? ⟨B, 1, none⟩ = some (.int .u8 53) ∧ ∀ W, Gr W w → W.heap.size ≤ B → Gr W w' := by
  have HF := hid' (Tryz.internal_strconv_formatBase10 B 0 32 1500000000000000 (Array.replicate 16 (0 : UInt8)) w hB.holds (by simp) (by decide) (by simp))
  rw [Array.size_replicate] at HF
  have HH := hid' hB.holds
  clear hB
  go_enter Tryz.func115, Tryz.ntmps115
  go_upto_region 3 with fail
  refine HF.out.mono ?_
  rintro e w' ⟨rfl, k, v', dk, rfl, hF⟩
  have hs : dk.size = 16 := hF.size
  have hC : ∀ j, j < 16 → ((putRow (fun (b : UInt8) => Value.int .u8 (b.toNat : Int)) w B 0 dk).drewN k).cell? ⟨B, j, none⟩ = some (.int .u8 (if j = 0 then 49 else if j = 1 then 53 else 48)) := fun j hj => by
    have h1 := cell?_putRow (fun (b : UInt8) => Value.int .u8 (b.toNat : Int)) w B 0 _ dk HH.out (by rw [hs, Array.size_replicate]) j (by omega)
    rw [World.cell?_drewN]
    rw [Nat.zero_add] at h1
    rw [h1, dg_at hF j hj]
    split
    · rfl
    · split <;> rfl
  have hG : Hid (∀ W, Gr W w → W.heap.size ≤ B → Gr W ((putRow (fun (b : UInt8) => Value.int .u8 (b.toNat : Int)) w B 0 dk).drewN k)) := fun W h1 h2 => (h1.putRow _ _ _ _ h2).drewN k
  clear hF hs HF HH
  generalize (putRow (fun (b : UInt8) => Value.int .u8 (b.toNat : Int)) w B 0 dk).drewN k = w1 at *
  have c0 := hC 0 (by omega)
  have c1 := hC 1 (by omega)
  have c2 := hC 2 (by omega)
  have c3 := hC 3 (by omega)
  have c4 := hC 4 (by omega)
  have c5 := hC 5 (by omega)
  have c6 := hC 6 (by omega)
  have c7 := hC 7 (by omega)
  have c8 := hC 8 (by omega)
  have c9 := hC 9 (by omega)
  have c10 := hC 10 (by omega)
  have c11 := hC 11 (by omega)
  have c12 := hC 12 (by omega)
  have c13 := hC 13 (by omega)
  have c14 := hC 14 (by omega)
  have c15 := hC 15 (by omega)
  clear hC
  simp at c0 c1 c2 c3 c4 c5 c6 c7 c8 c9 c10 c11 c12 c13 c14 c15
  go_wp2
  go_rounds 16
  go_ret2
  exact ⟨rfl, c0, c1, hG.out⟩
end Go.Proofs.YtmkechhjgdanmaaGreatDoor
