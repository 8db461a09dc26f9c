/- Contracts of the reference's whole numbers of any length: rows of words without noughts at the end. -/
import Derived.Test.YtagabccaipfjeaaProdP
import Derived.Test.YtagabccaipfjeaaBase
import Derived.Test.YtagabccaipfjeaaSg3
import Derived.Deep.LoopGhost
namespace Go.Proofs.Ytagabccaipfjeaa
open Go.RowKit Go.Sort

/-- The slice at 'ao', of this capacity, holds these words, in a row of the type of words. -/
structure Rd (w : World) (ao : Option Addr) (cap : Nat) (l : List Int) : Prop where
  nil : ao = none → l = [] ∧ cap = 0
  row : ∀ a, ao = some a → ∃ b cur, a = ⟨b, 0, none⟩ ∧ w.heap[b]? = some (.cells cur 80 (0, 0)) ∧ ∀ i, i < l.length → cur[i]? = some (.int .u32 (dg l i))
  le : l.length ≤ cap
  cap : cap ≤ 100000
  dig : ∀ d ∈ l, isD d
theorem Rd.gr {w w' : World} {ao : Option Addr} {cap : Nat} {l : List Int} (h : Rd w ao cap l) (g : Gr w w') : Rd w' ao cap l :=
  ⟨h.nil, fun a ha => by
    obtain ⟨b, cur, e, hb, hc⟩ := h.row a ha
    exact ⟨b, cur, e, (g.below.block b (lt_of_block hb)).trans hb, hc⟩, h.le, h.cap, h.dig⟩
theorem Rd.at {w : World} {b : Nat} {cap : Nat} {l : List Int} (h : Rd w (some ⟨b, 0, none⟩) cap l) {i : Nat} (hi : i < l.length) : w.cell? ⟨b, i, none⟩ = some (.int .u32 (dg l i)) := by
  obtain ⟨b', cur, e, hb, hc⟩ := h.row _ rfl
  simp only [Addr.mk.injEq] at e
  obtain ⟨rfl, _⟩ := e
  rw [cell_of_row w b i cur 80 (0, 0) hb]; exact hc i hi
theorem Rd.has {w : World} {ao : Option Addr} {cap : Nat} {l : List Int} (h : Rd w ao cap l) (hn : 0 < l.length) : ∃ b, ao = some ⟨b, 0, none⟩ := by
  cases ao with
  | none => have := (h.nil rfl).1; subst this; simp at hn
  | some a => obtain ⟨b, cur, e, _⟩ := h.row a rfl; exact ⟨b, by rw [e]⟩
theorem Rd.take {w : World} {ao : Option Addr} {cap : Nat} {l : List Int} (h : Rd w ao cap l) (n : Nat) (hn : n ≤ l.length) : Rd w ao cap (l.take n) :=
  ⟨fun e => by obtain ⟨rfl, h2⟩ := h.nil e; exact ⟨by simp, h2⟩, fun a ha => by
    obtain ⟨b, cur, e, hb, hc⟩ := h.row a ha
    exact ⟨b, cur, e, hb, fun i hi => by
      rw [List.length_take] at hi
      rw [dg_take l n i (by omega)]; exact hc i (by omega)⟩, by rw [List.length_take]; have := h.le; omega, h.cap, fun d hd => h.dig d (List.mem_of_mem_take hd)⟩
theorem Rd.trim {w : World} {ao : Option Addr} {cap : Nat} {l : List Int} (h : Rd w ao cap l) : Rd w ao cap (trim l) := h.take _ (tl_le _ _)
/-- A store into a block that is no row of words. -/
theorem Rd.set {w : World} {ao : Option Addr} {cap : Nat} {l : List Int} (h : Rd w ao cap l) {p : Addr} (hp : ∀ cur, w.heap[p.block]? ≠ some (.cells cur 80 (0, 0))) (z : Value) : Rd (w.setCell p z) ao cap l :=
  ⟨h.nil, fun a ha => by
    obtain ⟨b, cur, e, hb, hc⟩ := h.row a ha
    have hne : b ≠ p.block := fun q => by rw [q] at hb; exact hp cur hb
    exact ⟨b, cur, e, (Below.heap_setCell _ _ _ _ hne).trans hb, hc⟩, h.le, h.cap, h.dig⟩

set_option maxRecDepth 20000 in
set_option maxHeartbeats 1000000 in
theorem made_any (s : Bool) (ao : Option Addr) (cap : Nat) (l : List Int) (w : World) (h : Rd w ao cap l) :
    Calls Try.prog 57 #[.bool s, .slice ao l.length cap] w fun e w' => e = .returned (.agg #[.bool (s && (tl (dg l) l.length != 0)), .slice ao (tl (dg l) l.length) cap]) ∧ Gr w w' := by
  have hm := h.cap
  have hle := h.le
  have hG : Gr w (w.alloc (.cells #[.bool false, .slice none 0 0] 51)) := (Gr.refl _).alloc _
  go_enter Try.func57, Try.ntmps57
  go_wp2
  go_loop [5] (fun t => ∃ k : Nat, k ≤ l.length ∧ t = .int .i64 k ∧ Hid (tl (dg l) l.length = tl (dg l) k)) (fun t => (intOf t).toNat)
  case atStart => exact ⟨l.length, Nat.le_refl _, rfl, rfl⟩
  case round =>
    obtain ⟨k, hk, rfl, hE⟩ := hrel
    by_cases h0 : k = 0
    · subst h0
      have E : Hid (tl (dg l) l.length = 0) := hE.out
      cases s <;>
      · go_wp2
        refine bodyPost_ret (v := .agg #[.bool false, .slice ao 0 cap]) (by simp [results, Try.results57, go_sem]) rfl ⟨by first | (rw [E.out]; done) | (rw [E.out]; simp), (Gr.refl _).alloc _⟩
    · obtain ⟨b, rfl⟩ := h.has (by omega)
      have hc := h.at (i := k - 1) (by omega)
      obtain ⟨j, rfl⟩ := Nat.exists_eq_succ_of_ne_zero h0
      simp only [Nat.succ_eq_add_one, Nat.add_sub_cancel] at hc
      have hc' := below_cell hc hG.below
      by_cases hz : dg l j = 0
      · have E : Hid (tl (dg l) l.length = tl (dg l) j) := by have := hE.out; rw [Nat.succ_eq_add_one, tl_succ, if_pos hz] at this; exact this
        rw [hz] at hc hc'
        go_wp2
        go_round
        case rel => exact ⟨j, by omega, by go_num, E⟩
        case measure => simp [intOf]
      · have E : Hid (tl (dg l) l.length = j + 1) := by have := hE.out; rw [Nat.succ_eq_add_one, tl_succ, if_neg hz] at this; exact this
        have hz' : (dg l j == 0) = false := by simp [hz]
        cases s with
        | false =>
          go_wp2
          refine bodyPost_ret (v := .agg #[.bool false, .slice (some ⟨b, 0, none⟩) (j + 1) cap]) (by simp [results, Try.results57, go_sem]) rfl ⟨by first | (rw [E.out]; done) | (rw [E.out]; simp), (Gr.refl _).alloc _⟩
        | true =>
          go_wp2
          refine bodyPost_ret (v := .agg #[.bool true, .slice (some ⟨b, 0, none⟩) (j + 1) cap]) (by simp [results, Try.results57, go_sem]) rfl ⟨by first | (rw [E.out]; done) | (rw [E.out]; simp), (Gr.refl _).alloc _⟩

/-- A whole number in memory, of at most L words. -/
def Nm (w : World) (x : Value) (n : Int) (L : Nat) : Prop := ∃ ao cap l, x = .agg #[.bool (decide (n < 0)), .slice ao l.length cap] ∧ Rd w ao cap l ∧ nrm l ∧ vals l = n.natAbs ∧ l.length ≤ L
theorem Nm.gr {w w' : World} {x : Value} {n : Int} {L : Nat} (h : Nm w x n L) (g : Gr w w') : Nm w' x n L := by
  obtain ⟨ao, cap, l, e, hr, r⟩ := h; exact ⟨ao, cap, l, e, hr.gr g, r⟩
theorem Nm.le {w : World} {x : Value} {n : Int} {L M : Nat} (h : Nm w x n L) (k : L ≤ M) : Nm w x n M := by
  obtain ⟨ao, cap, l, e, hr, a, b, c⟩ := h; exact ⟨ao, cap, l, e, hr, a, b, Nat.le_trans c k⟩
theorem Nm.shape {w : World} {x : Value} {n : Int} {L : Nat} (h : Nm w x n L) : ∃ r ao len cap, x = .agg #[.bool r, .slice ao len cap] ∧ Hid (Nm w (.agg #[.bool r, .slice ao len cap]) n L) := by
  have h' := h
  obtain ⟨ao, cap, l, e, _⟩ := h
  subst e
  exact ⟨_, _, _, _, rfl, h'⟩
theorem flag {l : List Int} (hd : allD (dg l)) {n : Int} {r : Bool} (hv : vals l = n.natAbs) (hr : r = true → n ≤ 0) (hr' : r = false → 0 ≤ n) : (r && (tl (dg l) l.length != 0)) = decide (n < 0) := by
  have e := trim_vals l
  have z := nrm_zero (l := trim l) (allD_of (trim_mem (fun d hd' => by
    obtain ⟨i, hi, rfl⟩ := List.getElem_of_mem hd'
    have := hd i
    unfold dg at this
    simpa [List.getD, hi] using this))) (trim_nrm l)
  have tz : tl (dg l) l.length = 0 ↔ n = 0 := by
    rw [← trim_len]
    constructor
    · intro h
      have : trim l = [] := List.eq_nil_of_length_eq_zero h
      have := z.mpr this
      omega
    · intro h
      have : trim l = [] := z.mp (by omega)
      rw [this]; rfl
  cases r with
  | false => have := hr' rfl; simp; omega
  | true =>
    have := hr rfl
    rw [Bool.true_and, Bool.eq_iff_iff, bne_iff_ne, decide_eq_true_iff]
    constructor
    · intro h; have : n ≠ 0 := fun q => h (tz.mpr q); omega
    · intro h q; have := tz.mp q; omega
theorem Nm.set {w : World} {x : Value} {n : Int} {L : Nat} (h : Nm w x n L) {p : Addr} (hp : ∀ cur, w.heap[p.block]? ≠ some (.cells cur 80 (0, 0))) (z : Value) : Nm (w.setCell p z) x n L := by
  obtain ⟨ao, cap, l, e, hr, r⟩ := h; exact ⟨ao, cap, l, e, hr.set hp z, r⟩
def Wh (w : World) (b : Nat) (x0 x1 : Value) : Prop := w.heap[b]? = some (.cells #[x0, x1] 51 (0, 0))
section
variable {w w' : World} {b : Nat} {x0 x1 : Value}
theorem Wh.lt (h : Wh w b x0 x1) : b < w.heap.size := lt_of_block h
theorem Wh.c0 (h : Wh w b x0 x1) : w.cell? ⟨b, 0, none⟩ = some x0 := by unfold Wh at h; simp [World.cell?, h]
theorem Wh.c1 (h : Wh w b x0 x1) : w.cell? ⟨b, 1, none⟩ = some x1 := by unfold Wh at h; simp [World.cell?, h]
theorem Wh.f (h : Wh w b x0 x1) (o : Nat) : w.frozen? ⟨b, o, none⟩ = false := by unfold Wh at h; simp [World.frozen?, h]
theorem Wh.at (h : Wh w b x0 x1) : w.heap[b]'(h.lt) = .cells #[x0, x1] 51 (0, 0) := by
  have hlt := h.lt
  unfold Wh at h; simpa [Array.getElem?_eq_getElem hlt] using h
theorem Wh.s0 (h : Wh w b x0 x1) (z : Value) : Wh (w.setCell ⟨b, 0, none⟩ z) b z x1 := by
  have hlt := h.lt
  show (w.heap.modify b _)[b]? = _
  rw [Array.getElem?_eq_getElem (by simpa using hlt), Array.getElem_modify_self, h.at]; rfl
theorem Wh.s1 (h : Wh w b x0 x1) (z : Value) : Wh (w.setCell ⟨b, 1, none⟩ z) b x0 z := by
  have hlt := h.lt
  show (w.heap.modify b _)[b]? = _
  rw [Array.getElem?_eq_getElem (by simpa using hlt), Array.getElem_modify_self, h.at]; rfl
theorem Wh.mono {B : Nat} (h : Wh w b x0 x1) (g : Below B w w') (hb : b < B) : Wh w' b x0 x1 := by
  unfold Wh; rw [g.block b hb]; exact h
theorem Wh.other (h : Wh w b x0 x1) {p : Addr} (hp : b ≠ p.block) (z : Value) : Wh (w.setCell p z) b x0 x1 := by
  unfold Wh; rw [Below.heap_setCell _ _ _ _ hp]; exact h
theorem Wh.gr (h : Wh w b x0 x1) (g : Gr w w') : Wh w' b x0 x1 := h.mono g.below h.lt
end
theorem Wh.new (w : World) (x0 x1 : Value) : Wh (w.alloc (.cells #[x0, x1] 51)) w.heap.size x0 x1 := heap_alloc_new w _
theorem Wh.no {w : World} {b : Nat} {x0 x1 : Value} (h : Wh w b x0 x1) : ∀ cur, w.heap[b]? ≠ some (.cells cur 80 (0, 0)) := fun cur e => by unfold Wh at h; rw [h] at e; simp at e
theorem Nm.setW {w : World} {x : Value} {n : Int} {L : Nat} (h : Nm w x n L) {b : Nat} {x0 x1 : Value} (hb : Wh w b x0 x1) (y0 y1 : Value) : Nm ((w.setCell ⟨b, 0, none⟩ y0).setCell ⟨b, 1, none⟩ y1) x n L :=
  (h.set (p := ⟨b, 0, none⟩) hb.no y0).set (p := ⟨b, 1, none⟩) (hb.s0 y0).no y1
/-- made, of a number's words. -/
theorem made_num (s : Bool) (ao : Option Addr) (cap : Nat) (l : List Int) (n : Int) (L : Nat) (w : World) (h : Rd w ao cap l) (hv : vals l = n.natAbs) (h1 : s = true → n ≤ 0) (h2 : s = false → 0 ≤ n) (hL : l.length ≤ L) :
    Calls Try.prog 57 #[.bool s, .slice ao l.length cap] w fun e w' => ∃ z, e = .returned z ∧ Nm w' z n L ∧ Gr w w' := by
  refine (made_any s ao cap l w h).mono ?_
  rintro e w' ⟨rfl, g⟩
  refine ⟨_, rfl, ⟨ao, cap, trim l, ?_, (h.gr g).trim, trim_nrm l, by rw [trim_vals]; exact hv, ?_⟩, g⟩
  · rw [trim_len, flag (allD_of h.dig) hv h1 h2]
  · rw [trim_len]; have := tl_le (dg l) l.length; omega
end Go.Proofs.Ytagabccaipfjeaa
