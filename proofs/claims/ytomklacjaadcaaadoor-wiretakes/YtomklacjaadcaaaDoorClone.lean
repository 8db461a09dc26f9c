/- Contract of bytes.Clone; a slice that a call owns. -/
import Derived.Test.YtomklacjaadcaaaDoorLow
namespace Go.Proofs.YtomklacjaadcaaaDoor
open Go.RowKit Go.Sort

theorem info5 : (Tryd.prog.info? 5).map (fun i => (i.zero, i.size, i.bytes)) = some (some (.int .u8 0), 1, 1) := by kernel_rfl
/-- A slice of bytes that is the call's own. -/
def Own (w : World) (B : Nat) (v : Value) (l : List UInt8) : Prop := w.ownsRow B 5 1 v l.length (bc l)
theorem Own.shape {w : World} {B : Nat} {v : Value} {l : List UInt8} (h : Own w B v l) :
    ∃ ao cap, v = .slice ao l.length cap ∧ By w ao l ∧ l.length ≤ cap ∧ cap ≤ maxLen ∧ (∀ a, ao = some a → B ≤ a.block ∧ a.block < w.heap.size) ∧ (l ≠ [] → ∃ g L, ao = some ⟨g, 0, none⟩ ∧ Row w g 5 L ∧ L.take l.length = bc l ∧ L.length = cap) := by
  rcases h.2 with ⟨h2, h3⟩ | ⟨g, cap, cur, h3, h4, h5, h6, h7, h8, h9⟩
  · have hl : l = [] := List.eq_nil_of_length_eq_zero h3
    subst hl
    exact ⟨none, 0, h2, fun i hi => (by simp at hi), by simp, by unfold maxLen; omega, fun a ha => (by cases ha), fun h => absurd rfl h⟩
  · have hr : Row w g 5 cur.toList := by unfold Row; simpa using h5
    have hc : cur.toList.length = cap := by simpa using h8
    have ht : cur.toList.take l.length = bc l := by simpa using h9
    refine ⟨some ⟨g, 0, none⟩, cap, h3, ?_, h6, h7, fun a ha => by cases ha; exact ⟨h4, hr.lt⟩, fun _ => ⟨g, _, rfl, hr, ht, hc⟩⟩
    refine hr.by 0 l fun i hi => ?_
    rw [Nat.zero_add, ← bc_at hi, ← ht, List.getElem?_take]
    simp [hi]
theorem run_eqnil (ao : Option Addr) (l c : Nat) (w : World) : (binOp .eql 31 (.slice ao l c) (.slice none 0 0)).run Tryd.prog w = .ok (.bool ao.isNone) w := by
  simp [binOp, run_equal_slice_nil w 31 5 ao l c Tryd.underlying31]
set_option maxRecDepth 20000 in
set_option maxHeartbeats 1600000 in
theorem clone_some (a : Addr) (cap : Nat) (l : List UInt8) (hl : l.length ≤ 140737488351232) (w : World) (hb : By w (some a) l) :
    Calls Tryd.prog 49 #[.slice (some a) l.length cap] w fun e w' => ∃ v, e = .returned v ∧ Own w' w.heap.size v l ∧ Below w.heap.size w w' := by
  obtain ⟨i0, hi', hz0, hz1, hz2⟩ := info_parts info5
  have HB := hid' hb
  clear hb
  have hE := run_eqnil (some a) l.length cap
  go_enter Tryd.func49, Tryd.ntmps49
  go_wp2_with (at_builtin; refine wpList_append_own _ rfl (.tmp 5) (.tmp 6) 31 rfl w.heap.size 5 i0 (.int .u8 0) 1 1 Tryd.underlying31 hi' hz0 hz1 hz2 rfl (by decide) _ 0 [] rfl (World.ownsRow_made w #[] 0 (Nat.le_refl _) (by unfold maxLen; omega) rfl) a l.length cap (bc l) rfl (by rw [bc_len, Nat.mul_one]) (By.src (HB.out.mono ((Below.refl _ w).alloc (Nat.le_refl _) _))) bc_one (by unfold maxLen; omega) (by omega) (by simp) ?_; intro v w2 o2 g2 _)
  go_ret
  refine ⟨v, rfl, ?_, ?_⟩
  · have : w2.ownsRow w.heap.size 5 1 v (0 + l.length) (bc l) := o2
    rwa [Nat.zero_add] at this
  · exact ((Below.refl w.heap.size w).alloc (Nat.le_refl _) _).grown g2 (by simp) (fun k hk => by cases hk; exact Nat.le_refl _)
set_option maxRecDepth 20000 in
set_option maxHeartbeats 1600000 in
theorem clone_none (w : World) :
    Calls Tryd.prog 49 #[.slice none 0 0] w fun e w' => e = .returned (.slice none 0 0) ∧ w' = w := by
  have hE := run_eqnil none 0 0
  go_enter Tryd.func49, Tryd.ntmps49
  go_wp2
  go_ret
  exact ⟨rfl, rfl⟩
theorem clone_any (ao : Option Addr) (cap : Nat) (l : List UInt8) (h0 : ao = none → l = [] ∧ cap = 0) (hl : l.length ≤ 140737488351232) (w : World) (hb : By w ao l) :
    Calls Tryd.prog 49 #[.slice ao l.length cap] w fun e w' => ∃ v, e = .returned v ∧ Own w' w.heap.size v l ∧ Below w.heap.size w w' := by
  cases ao with
  | some a => exact clone_some a cap l hl w hb
  | none =>
    obtain ⟨rfl, rfl⟩ := h0 rfl
    refine (clone_none w).mono ?_
    rintro e w' ⟨rfl, rfl⟩
    exact ⟨_, rfl, World.ownsRow_nil _ _ _ _, Below.refl _ _⟩
theorem clone_at {a : Addr} {cap n : Nat} {l : List UInt8} (hn : l.length = n) (hl : n ≤ 140737488351232) {w : World} (hb : By w (some a) l) :
    Calls Tryd.prog 49 #[.slice (some a) n cap] w fun e w' => ∃ v, e = .returned v ∧ Own w' w.heap.size v l ∧ Below w.heap.size w w' := by
  subst hn; exact clone_some a cap l hl w hb
theorem Own.low {w : World} {B B' : Nat} {v : Value} {l : List UInt8} (h : Own w B v l) (hb : B' ≤ B) : Own w B' v l := by
  refine ⟨h.1, ?_⟩
  rcases h.2 with h2 | ⟨g, cap, cur, h3, h4, h5⟩
  · exact .inl h2
  · exact .inr ⟨g, cap, cur, h3, Nat.le_trans hb h4, h5⟩
theorem Own.nil (w : World) (B : Nat) : Own w B (.slice none 0 0) [] := World.ownsRow_nil _ _ _ _
end Go.Proofs.YtomklacjaadcaaaDoor
