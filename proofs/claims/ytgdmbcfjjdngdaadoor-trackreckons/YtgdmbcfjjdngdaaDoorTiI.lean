/- A table in memory; absent, find, Len, Room, New; of. -/
import Derived.Test.YtgdmbcfjjdngdaaDoorTbI
set_option linter.unusedSimpArgs false
set_option linter.unusedVariables false
namespace Go.Proofs.YtgdmbcfjjdngdaaDoor.TI
open Go.RowKit Go.Sort Go.Shelf

/-- A slice of rows: nil, or a row of the call's own. -/
def Sl (B : Nat) (w : World) (v : Value) (L : List En) : Prop := (v = .slice none 0 0 ∧ L = []) ∨ ∃ g cp, v = .slice (some ⟨g, 0, none⟩) L.length cp ∧ B ≤ g ∧ RowG w g cp L
/-- The table t with the entries L and as much room; its blocks begin at B. -/
structure TabIs (B : Nat) (w : World) (t : Nat) (room : Nat) (v : Value) (L : List En) : Prop where
  blk : Bk w t 115 [.bool true, .int .i64 (room : Int), v]
  sl : Sl B w v L
  ents : Ents w L
  asc : Asc L
  len : L.length ≤ room
  most : room ≤ 65536
  t0 : B ≤ t
theorem Sl.keep {B : Nat} {w w' : World} {v : Value} {L : List En} (h : Sl B w v L) (e : ∀ g, v.ownBlock = some g → w'.heap[g]? = w.heap[g]?) : Sl B w' v L := by
  rcases h with h | ⟨g, cp, rfl, hB, hR⟩
  · exact .inl h
  · exact .inr ⟨g, cp, rfl, hB, hR.same (e g rfl)⟩
theorem Sl.lt {B : Nat} {w : World} {v : Value} {L : List En} (h : Sl B w v L) {g : Nat} (e : v.ownBlock = some g) : g < w.heap.size ∧ B ≤ g ∧ ∃ cur, Bk w g 124 cur := by
  rcases h with ⟨rfl, _⟩ | ⟨g', cp, rfl, hB, hR⟩
  · cases e
  · cases e
    obtain ⟨r, h, _⟩ := hR
    exact ⟨h.lt, hB, _, h⟩
theorem Sl.gr {B : Nat} {w w' : World} {v : Value} {L : List En} (h : Sl B w v L) (k : Gr w w') : Sl B w' v L := h.keep fun g e => k.below.block _ (h.lt e).1
theorem Sl.slice {B : Nat} {w : World} {v : Value} {L : List En} (h : Sl B w v L) : ∃ ao c, v = .slice ao L.length c := by
  rcases h with ⟨rfl, rfl⟩ | ⟨g, cp, rfl, _⟩
  · exact ⟨none, 0, rfl⟩
  · exact ⟨_, _, rfl⟩
section
variable {B : Nat} {w w' : World} {t room : Nat} {v : Value} {L : List En}
theorem TabIs.gr (h : TabIs B w t room v L) (k : Gr w w') : TabIs B w' t room v L := ⟨h.blk.gr k, h.sl.gr k, h.ents.gr k, h.asc, h.len, h.most, h.t0⟩
theorem TabIs.chg {p : Nat → Prop} (h : TabIs B w t room v L) (k : Chg p w w') (h1 : ¬ p t) (h2 : ∀ g, v.ownBlock = some g → ¬ p g) (h3 : ∀ x ∈ L, ¬ p x.2.2) : TabIs B w' t room v L :=
  ⟨h.blk.chg k h1, h.sl.keep fun g e => k.block _ (h.sl.lt e).1 (h2 g e), fun x hx => (h.ents x hx).chg k (h3 x hx), h.asc, h.len, h.most, h.t0⟩
theorem TabIs.c0 (h : TabIs B w t room v L) : w.cell? ⟨t, 0, none⟩ = some (.bool true) := h.blk.at 0
theorem TabIs.c1 (h : TabIs B w t room v L) : w.cell? ⟨t, 1, none⟩ = some (.int .i64 (room : Int)) := h.blk.at 1
theorem TabIs.c2 (h : TabIs B w t room v L) : w.cell? ⟨t, 2, none⟩ = some v := h.blk.at 2
end
theorem bk_ty {w : World} {b t t' : Nat} {l l' : List Value} (h : Bk w b t l) (k : Bk w b t' l') : t = t' := by
  unfold Bk at h k
  rw [h] at k
  simp only [Option.some.injEq, Obj.cells.injEq] at k
  exact k.2.1
theorem absent_no (w : World) : Calls Tryd.prog 72 #[.pointer none] w fun e w' => e = .returned (.bool true) ∧ w' = w := by
  go_enter Tryd.func72, Tryd.ntmps72
  go_wp2
  go_ret
  exact ⟨rfl, rfl⟩
theorem absent_zero (t : Nat) (x y : Value) (w : World) (h : Bk w t 115 [.bool false, x, y]) : Calls Tryd.prog 72 #[pT t] w fun e w' => e = .returned (.bool true) ∧ w' = w := by
  have c0 := h.at 0
  simp only [List.getElem?_cons_zero] at c0
  go_enter Tryd.func72, Tryd.ntmps72
  go_wp2
  go_ret
  exact ⟨rfl, rfl⟩
theorem absent_yes (t : Nat) (w : World) (c0 : w.cell? ⟨t, 0, none⟩ = some (.bool true)) : Calls Tryd.prog 72 #[pT t] w fun e w' => e = .returned (.bool false) ∧ w' = w := by
  go_enter Tryd.func72, Tryd.ntmps72
  go_wp2
  go_ret
  exact ⟨rfl, rfl⟩
section
variable {B : Nat} {w : World} {t room : Nat} {v : Value} {L : List En}
theorem find_any (h : TabIs B w t room v L) (id : Int) : Calls Tryd.prog 73 #[pT t, .int .u32 id] w (SearchR L id w) := by
  have I := hid0 (absent_yes t w h.c0)
  have S : Hid (Calls Tryd.prog 85 #[v, .int .u32 id, .func (.func 86) #[] #[]] w (SearchR L id w)) := by
    rcases h.sl with ⟨rfl, rfl⟩ | ⟨g, cp, rfl, hB, hR⟩
    · exact search_nil id w
    · exact search_any g cp id L w hR h.ents h.asc (Nat.le_trans h.len h.most)
  have c2 := h.c2
  obtain ⟨ao, c, rfl⟩ := h.sl.slice
  clear h
  go_enter Tryd.func73, Tryd.ntmps73
  go_wp2_with (go_at_call 72; refine I.out.mono ?_; rintro e w1 ⟨rfl, rfl⟩)
  refine S.out.mono ?_
  rintro e w1 ⟨i, hc, rfl, hw⟩
  cases hw
  have HC := hid0 hc
  clear hc S I
  go_wp2
  go_ret2
  exact ⟨i, HC.out, rfl, rfl⟩
theorem room_any (h : TabIs B w t room v L) : Calls Tryd.prog 66 #[pT t] w fun e w' => e = .returned (.int .i64 (room : Int)) ∧ w' = w := by
  have I := hid0 (absent_yes t w h.c0)
  have c1 := h.c1
  clear h
  go_enter Tryd.func66, Tryd.ntmps66
  go_wp2_with (go_at_call 72; refine I.out.mono ?_; rintro e w1 ⟨rfl, rfl⟩)
  go_ret
  exact ⟨rfl, rfl⟩
end
theorem new_no (n : Int) (w : World) (h : n < 0 ∨ 65536 < n) : Calls Tryd.prog 43 #[.int .i64 n] w fun e w' => e = .returned (.tuple #[.pointer none, .int .i64 2]) ∧ w' = w := by
  rcases h with h | h
  · have d1 : decide (n < 0) = true := decide_eq_true h
    go_enter Tryd.func43, Tryd.ntmps43
    go_wp2
    go_ret2
    exact ⟨rfl, rfl⟩
  · have d1 : decide (n < 0) = false := decide_eq_false (by omega)
    have d2 : decide (n > 65536) = true := decide_eq_true h
    have h1 : ¬ n < 0 := by omega
    go_enter Tryd.func43, Tryd.ntmps43
    go_wp2
    go_ret2
    exact ⟨rfl, rfl⟩
theorem new_yes (n : Nat) (w : World) (h2 : n ≤ 65536) : Calls Tryd.prog 43 #[.int .i64 (n : Int)] w fun e w' => ∃ t, e = .returned (.tuple #[pT t, .int .i64 0]) ∧ TabIs w.heap.size w' t n (.slice none 0 0) [] ∧ Gr w w' := by
  have d1 : ¬ (n : Int) < 0 := by omega
  have d2 : ¬ (n : Int) > 65536 := by omega
  have T : Hid (TabIs w.heap.size (w.alloc (.cells #[.bool true, .int .i64 (n : Int), .slice none 0 0] 115)) w.heap.size n (.slice none 0 0) []) :=
    ⟨Bk.new w 115 _, .inl ⟨rfl, rfl⟩, fun x hx => by simp at hx, List.Pairwise.nil, Nat.zero_le _, h2, Nat.le_refl _⟩
  have G := hid0 ((Gr.refl w).alloc (.cells #[.bool true, .int .i64 (n : Int), .slice none 0 0] 115))
  clear h2
  go_enter Tryd.func43, Tryd.ntmps43
  go_wp2
  go_ret2
  exact ⟨_, rfl, T.out, G.out⟩
end Go.Proofs.YtgdmbcfjjdngdaaDoor.TI
