/- Contracts of End and Text. -/
import Derived.Test.YtomklacjaadcaaaDoorIn3
namespace Go.Proofs.YtomklacjaadcaaaDoor
open Go.RowKit Go.Sort

/-- The fault's place, as both tell it. -/
def whereV (at' f : Nat) : Nat := if f = 0 then 0 else at'
theorem fault_any (i at' f : Nat) (v : Value) (w : World) (hR : Row w i 51 (inL v at' f)) : Calls Tryd.prog 20 #[.pointer (some ⟨i, 0, none⟩)] w fun e w' => e = .returned (.tuple #[.int .i64 (whereV at' f : Nat), .int .i64 (f : Nat)]) ∧ Gr w w' := by
  unfold whereV
  by_cases hf : f = 0
  · subst hf
    exact (fault_right i at' v w hR).mono fun e w' ⟨h1, h2⟩ => ⟨h1, h2 ▸ Gr.refl w⟩
  · rw [if_neg hf]
    exact (fault_wrong i at' f hf v w hR).mono fun e w' ⟨h1, h2⟩ => ⟨h1, h2 ▸ (Gr.refl w).drew⟩
def endV (l : List UInt8) (at' f : Nat) : Nat := if f = 0 ∧ at' < l.length then 32 else f
set_option maxRecDepth 20000 in
set_option maxHeartbeats 3200000 in
theorem end_nil (w : World) : Calls Tryd.prog 22 #[.pointer none] w fun e w' => e = .returned (.int .i64 1) ∧ w' = w := by
  have H := hid' (fault_nil w)
  go_enter Tryd.func22, Tryd.ntmps22
  go_wp2_with (go_at_call 20; refine H.out.mono ?_; rintro e w' ⟨rfl, rfl⟩)
  go_ret
  exact ⟨rfl, rfl⟩
set_option maxRecDepth 20000 in
set_option maxHeartbeats 3200000 in
theorem end_wrong (i at' f : Nat) (hf : f ≠ 0) (v : Value) (w : World) (hR : Row w i 51 (inL v at' f)) : Calls Tryd.prog 22 #[.pointer (some ⟨i, 0, none⟩)] w fun e w' => e = .returned (.int .i64 (f : Nat)) ∧ Gr w w' := by
  have H := hid' (fault_any i at' f v w hR)
  have h1 : ((f : Int) == 0) = false := by simp; omega
  have h2 : ((f : Int) != 0) = true := by simp; omega
  clear hR
  go_enter Tryd.func22, Tryd.ntmps22
  go_wp2_with (go_at_call 20; refine H.out.mono ?_; rintro e w' ⟨rfl, g⟩)
  go_ret
  exact ⟨rfl, g⟩
set_option maxRecDepth 20000 in
set_option maxHeartbeats 3200000 in
theorem end_left (i at' len cap : Nat) (ao : Option Addr) (hl : at' < len) (w : World) (hR : Row w i 51 (inL (.slice ao len cap) at' 0)) : Calls Tryd.prog 22 #[.pointer (some ⟨i, 0, none⟩)] w fun e w' => e = .returned (.int .i64 32) ∧ Gr w w' := by
  have H : Hid (Calls Tryd.prog 20 #[.pointer (some ⟨i, 0, none⟩)] w fun e w' => e = .returned (.tuple #[.int .i64 0, .int .i64 0]) ∧ w' = w) := fault_right i at' _ w hR
  have c0 : w.cell? ⟨i, 0, none⟩ = some (.slice ao len cap) := hR.cell 0
  have c1 : w.cell? ⟨i, 1, none⟩ = some (.int .i64 (at' : Nat)) := hR.cell 1
  have hd : decide ((at' : Int) < (len : Int)) = true := by simp; omega
  clear hR
  go_enter Tryd.func22, Tryd.ntmps22
  go_upto_region 4 with (go_at_call 20; refine H.out.mono ?_; rintro e w' ⟨rfl, rfl⟩)
  go_region
  go_wp2
  go_ret
  exact ⟨rfl, (Gr.refl _).drew⟩
set_option maxRecDepth 20000 in
set_option maxHeartbeats 3200000 in
theorem end_all (i at' len cap : Nat) (ao : Option Addr) (hl : ¬ at' < len) (w : World) (hR : Row w i 51 (inL (.slice ao len cap) at' 0)) : Calls Tryd.prog 22 #[.pointer (some ⟨i, 0, none⟩)] w fun e w' => e = .returned (.int .i64 0) ∧ Gr w w' := by
  have H : Hid (Calls Tryd.prog 20 #[.pointer (some ⟨i, 0, none⟩)] w fun e w' => e = .returned (.tuple #[.int .i64 0, .int .i64 0]) ∧ w' = w) := fault_right i at' _ w hR
  have c0 : w.cell? ⟨i, 0, none⟩ = some (.slice ao len cap) := hR.cell 0
  have c1 : w.cell? ⟨i, 1, none⟩ = some (.int .i64 (at' : Nat)) := hR.cell 1
  have hd : decide ((at' : Int) < (len : Int)) = false := by simp; omega
  clear hR
  go_enter Tryd.func22, Tryd.ntmps22
  go_upto_region 4 with (go_at_call 20; refine H.out.mono ?_; rintro e w' ⟨rfl, rfl⟩)
  go_region
  go_wp2
  go_ret
  exact ⟨rfl, (Gr.refl _).drew⟩
theorem end_any (i at' f : Nat) (l : List UInt8) (w : World) (h : InIs w i l at' f) : Calls Tryd.prog 22 #[.pointer (some ⟨i, 0, none⟩)] w fun e w' => e = .returned (.int .i64 (endV l at' f : Nat)) ∧ Gr w w' := by
  obtain ⟨ao, cap, h1, h2, h3, h4, h5, h6⟩ := h
  unfold endV
  by_cases hf : f = 0
  · subst hf
    by_cases hl : at' < l.length
    · rw [if_pos ⟨rfl, hl⟩]
      exact end_left i at' l.length cap ao hl w h1
    · rw [if_neg (fun x => hl x.2)]
      exact end_all i at' l.length cap ao hl w h1
  · rw [if_neg (fun x => hf x.1)]
    exact end_wrong i at' f hf _ w h1
set_option maxRecDepth 20000 in
set_option maxHeartbeats 3200000 in
theorem text_none (p : Value) (most : Int) (w : World) (Q : World → Prop) (HA : Hid (Calls Tryd.prog 87 #[p, .int .i64 most] w fun e w' => e = .returned (.tuple #[.int .i64 0, .bool false]) ∧ Q w')) :
    Calls Tryd.prog 60 #[p, .int .i64 most] w fun e w' => e = .returned (.string ⟨#[]⟩) ∧ Q w' := by
  go_enter Tryd.func60, Tryd.ntmps60
  go_wp2_with (go_at_call 87; refine HA.out.mono ?_; rintro e w2 ⟨rfl, q2⟩)
  go_ret
  exact ⟨rfl, q2⟩
set_option maxRecDepth 20000 in
set_option maxHeartbeats 3200000 in
theorem text_ends (p : Value) (X : Nat) (hX : X < 65536) (most : Int) (w : World) (Q : World → Prop) (HA : Hid (Calls Tryd.prog 87 #[p, .int .i64 most] w fun e w' => e = .returned (.tuple #[.int .i64 (X : Nat), .bool true]) ∧ Gr w w'))
    (HB : Hid (∀ w', Gr w w' → Calls Tryd.prog 76 #[p, .int .i64 (2 + (X : Int))] w' fun e w2 => e = .returned (.tuple #[.slice none 0 0, .bool false]) ∧ Q w2)) :
    Calls Tryd.prog 60 #[p, .int .i64 most] w fun e w' => e = .returned (.string ⟨#[]⟩) ∧ Q w' := by
  go_enter Tryd.func60, Tryd.ntmps60
  go_wp2_with (first
    | (go_at_call 87; refine HA.out.mono ?_; rintro e w2 ⟨rfl, g2⟩)
    | (go_at_call 76; refine (HB.out _ g2).mono ?_; rintro e w3 ⟨rfl, q3⟩))
  go_ret
  exact ⟨rfl, q3⟩
end Go.Proofs.YtomklacjaadcaaaDoor
