/- Contracts of the reference's numbers of any size: a digit, noughts struck off the end. -/
import Derived.Test.YtljdnahomhbenaaWordJ
import Derived.Test.YtljdnahomhbenaaDigits
import Derived.BigQuiet
import Derived.Deep.RegionWith
import Derived.Deep.RegionHeld3
import Derived.Deep.DeepCutAuto
namespace Go.Proofs.Ytljdnahomhbenaa
section
open Go.RowKit Go.Sort

/-- The slice at 'ao', of this capacity, holds these digits, in a row of the type of digits. -/
structure Rd (w : World) (ao : Option Addr) (cap : Nat) (l : List Int) : Prop where
  nil : ao = none → l = [] ∧ cap = 0
  row : ∀ a, ao = some a → ∃ b cur, a = ⟨b, 0, none⟩ ∧ w.heap[b]? = some (.cells cur 69 (0, 0)) ∧ ∀ i, i < l.length → cur[i]? = some (.int .u64 (dg l i))
  le : l.length ≤ cap
  cap : cap ≤ maxLen
  dig : ∀ d ∈ l, isD d
  few : l.length ≤ 1000000

theorem Rd.cell {w : World} {ao : Option Addr} {cap : Nat} {l : List Int} (h : Rd w ao cap l) : ∀ a, ao = some a → ∃ b, a = ⟨b, 0, none⟩ ∧ b < w.heap.size ∧ ∀ i, i < l.length → w.cell? ⟨b, i, none⟩ = some (.int .u64 (dg l i)) := by
  intro a ha
  obtain ⟨b, cur, e, hb, hc⟩ := h.row a ha
  exact ⟨b, e, lt_of_block hb, fun i hi => by rw [cell_of_row w b i cur 69 (0, 0) hb]; exact hc i hi⟩

theorem Rd.mono {w w' : World} {ao : Option Addr} {cap : Nat} {l : List Int} (h : Rd w ao cap l) (g : Below w.heap.size w w') : Rd w' ao cap l :=
  ⟨h.nil, fun a ha => by
    obtain ⟨b, cur, e, hb, hc⟩ := h.row a ha
    exact ⟨b, cur, e, (g.block b (lt_of_block hb)).trans hb, hc⟩, h.le, h.cap, h.dig, h.few⟩

set_option maxHeartbeats 400000 in
theorem digit_any (s : Bool) (ao : Option Addr) (cap : Nat) (l : List Int) (k : Nat) (w : World) (h : Rd w ao cap l) :
    Calls Try.prog 99 #[.agg #[.bool s, .slice ao l.length cap], .int .i64 (k : Int)] w fun e w' => e = .returned (.int .u64 (dg l k)) ∧ Gr w w' := by
  have hf := h.few
  by_cases hl : k < l.length
  · cases ao with
    | none => have := (h.nil rfl).1; subst this; simp at hl
    | some a =>
      obtain ⟨b, rfl, hb, hc⟩ := h.cell a rfl
      have hk0 := hc k hl
      have hm := h.cap
      have hle := h.le
      have hc1 : ((w.alloc (Obj.cells #[.bool s, .slice (some ⟨b, 0, none⟩) l.length cap] 53)).cell? ⟨b, k, none⟩) = some (.int .u64 (dg l k)) := by
        rw [← hk0]; exact World.cell?_alloc_lt _ _ _ hb
      clear hc h hk0
      go_enter Try.func99, Try.ntmps99
      go_wp2
      go_ret
      exact ⟨rfl, (Gr.refl _).alloc _⟩
  · rw [dg_out l k (by omega)]
    clear h
    go_enter Try.func99, Try.ntmps99
    go_wp2
    go_ret
    exact ⟨rfl, (Gr.refl _).alloc _⟩

set_option maxHeartbeats 1000000 in
theorem trim_any (s : Bool) (ao : Option Addr) (cap : Nat) (l : List Int) (w : World) (h : Rd w ao cap l) :
    Calls Try.prog 100 #[.agg #[.bool s, .slice ao l.length cap]] w fun e w' => e = .returned (.agg #[.bool (s && (tl (dg l) l.length != 0)), .slice ao (tl (dg l) l.length) cap]) ∧ Gr w w' := by
  have hf := h.few
  have hm := h.cap
  have hle := h.le
  unfold maxLen at hm
  cases ao with
  | none =>
    obtain ⟨rfl, rfl⟩ := h.nil rfl
    clear h
    go_enter Try.func100, Try.ntmps100
    go_wp2
    go_rounds 1
    refine bodyPost_ret (v := .agg #[.bool false, .slice none 0 0]) (by simp [results, Try.results100, go_sem]) rfl ⟨by simp [tl], ?_⟩
    exact ((Gr.refl _).alloc _).alloc _
  | some a =>
    obtain ⟨b, rfl, hb, hc⟩ := h.cell a rfl
    have hc1 : ∀ i, i < l.length → (((w.alloc (Obj.cells #[.bool s, .slice (some ⟨b, 0, none⟩) l.length cap] 53)).alloc (Obj.cells #[.bool false, .slice none 0 0] 53)).cell? ⟨b, i, none⟩) = some (.int .u64 (dg l i)) := fun i hi => by
      rw [← hc i hi]; exact (World.cell?_alloc_lt _ _ _ (by simp; omega)).trans (World.cell?_alloc_lt _ _ _ hb)
    clear hc h
    have hbs : b ≠ w.heap.size := by omega
    have hbs' : b ≠ w.heap.size + 1 := by omega
    go_enter Try.func100, Try.ntmps100
    go_wp2
    go_loop [3] (fun t => ∃ n : Nat, n ≤ l.length ∧ t = .int .i64 n ∧ Hid (tl (dg l) n = tl (dg l) l.length)) (fun t => (intOf t).toNat)
    case atStart => exact ⟨_, Nat.le_refl _, rfl, rfl⟩
    case round =>
      obtain ⟨n, hn, rfl, hT⟩ := hrel
      by_cases h0 : n = 0
      · subst h0
        have e0 : Hid (tl (dg l) l.length = 0) := hT.out.symm
        go_wp2
        rw [e0.out]
        refine bodyPost_ret (v := .agg #[.bool false, .slice (some ⟨b, 0, none⟩) 0 cap]) (by simp [results, Try.results100, go_sem]) rfl ⟨by simp, ?_⟩
        exact ((Gr.refl _).alloc _).alloc _
      · obtain ⟨k, rfl⟩ := Nat.exists_eq_succ_of_ne_zero h0
        have hck := hc1 k (by omega)
        by_cases hz : dg l k = 0
        · have H1 : Hid (tl (dg l) k = tl (dg l) l.length) := by
            have := hT.out
            rw [Nat.succ_eq_add_one, tl_succ, if_pos hz] at this
            exact this
          have hz' : (dg l k == 0) = true := by simp [hz]
          clear hz hT
          go_wp2
          go_round
          case rel => exact ⟨k, by omega, by go_num, H1⟩
          case measure => simp [intOf]
        · have H1 : Hid (tl (dg l) l.length = k + 1) := by
            have := hT.out
            rw [Nat.succ_eq_add_one, tl_succ, if_neg hz] at this
            exact this.symm
          have hz' : (dg l k == 0) = false := by simp [hz]
          clear hz hT
          go_wp2
          rw [H1.out]
          refine bodyPost_ret (v := .agg #[.bool s, .slice (some ⟨b, 0, none⟩) (k + 1) cap]) (by simp [results, Try.results100, go_sem]) rfl ⟨by simp, ?_⟩
          exact ((Gr.refl _).alloc _).alloc _

/-- A store into another block. -/
theorem Rd.set {w : World} {ao : Option Addr} {cap : Nat} {l : List Int} (h : Rd w ao cap l) {p : Addr} (hp : ∀ a, ao = some a → a.block ≠ p.block) (z : Value) : Rd (w.setCell p z) ao cap l :=
  ⟨h.nil, fun a ha => by
    obtain ⟨b, cur, e, hb, hc⟩ := h.row a ha
    have hne := hp a ha
    subst e
    exact ⟨b, cur, rfl, (Below.heap_setCell _ _ _ _ hne).trans hb, hc⟩, h.le, h.cap, h.dig, h.few⟩

theorem Rd.trim {w : World} {ao : Option Addr} {cap : Nat} {l : List Int} (h : Rd w ao cap l) : Rd w ao cap (trim l) := by
  have hl := tl_le (dg l) l.length
  have e := trim_len l
  refine ⟨fun hn => ?_, fun a ha => ?_, ?_, h.cap, trim_mem h.dig, ?_⟩
  · obtain ⟨rfl, h2⟩ := h.nil hn; exact ⟨rfl, h2⟩
  · obtain ⟨b, cur, e1, hb, hc⟩ := h.row a ha
    refine ⟨b, cur, e1, hb, fun i hi => ?_⟩
    rw [hc i (by omega)]
    unfold Ytljdnahomhbenaa.trim
    rw [dg_take l _ i (by omega)]
  · have := h.le; omega
  · have := h.few; omega

/-! ### A block of two cells -/
def Bk (w : World) (b : Nat) (x y : Value) : Prop := w.heap[b]? = some (.cells #[x, y] 53 (0, 0))
theorem Bk.lt {w : World} {b : Nat} {x y : Value} (h : Bk w b x y) : b < w.heap.size := lt_of_block h
theorem Bk.c0 {w : World} {b : Nat} {x y : Value} (h : Bk w b x y) : w.cell? ⟨b, 0, none⟩ = some x := by unfold Bk at h; simp [World.cell?, h]
theorem Bk.c1 {w : World} {b : Nat} {x y : Value} (h : Bk w b x y) : w.cell? ⟨b, 1, none⟩ = some y := by unfold Bk at h; simp [World.cell?, h]
theorem Bk.f0 {w : World} {b : Nat} {x y : Value} (h : Bk w b x y) : w.frozen? ⟨b, 0, none⟩ = false := by unfold Bk at h; simp [World.frozen?, h]
theorem Bk.f1 {w : World} {b : Nat} {x y : Value} (h : Bk w b x y) : w.frozen? ⟨b, 1, none⟩ = false := by unfold Bk at h; simp [World.frozen?, h]
theorem Bk.set1 {w : World} {b : Nat} {x y : Value} (h : Bk w b x y) (z : Value) : Bk (w.setCell ⟨b, 1, none⟩ z) b x z := by
  have hlt := h.lt
  have h' : w.heap[b] = .cells #[x, y] 53 (0, 0) := by unfold Bk at h; simpa [Array.getElem?_eq_getElem hlt] using h
  show (w.heap.modify b _)[b]? = _
  rw [Array.getElem?_eq_getElem (by simpa using hlt), Array.getElem_modify_self, h']
  rfl
theorem Bk.set0 {w : World} {b : Nat} {x y : Value} (h : Bk w b x y) (z : Value) : Bk (w.setCell ⟨b, 0, none⟩ z) b z y := by
  have hlt := h.lt
  have h' : w.heap[b] = .cells #[x, y] 53 (0, 0) := by unfold Bk at h; simpa [Array.getElem?_eq_getElem hlt] using h
  show (w.heap.modify b _)[b]? = _
  rw [Array.getElem?_eq_getElem (by simpa using hlt), Array.getElem_modify_self, h']
  rfl
theorem Bk.other {w : World} {b : Nat} {x y : Value} (h : Bk w b x y) {p : Addr} (hp : b ≠ p.block) (z : Value) : Bk (w.setCell p z) b x y := by
  unfold Bk; rw [Below.heap_setCell _ _ _ _ hp]; exact h
theorem Bk.mono {w w' : World} {b B : Nat} {x y : Value} (h : Bk w b x y) (g : Below B w w') (hb : b < B) : Bk w' b x y := by
  unfold Bk; rw [g.block b hb]; exact h
theorem Bk.new (w : World) (x y : Value) : Bk (w.alloc (.cells #[x, y] 53)) w.heap.size x y := heap_alloc_new w _
theorem Bk.alloc {w : World} {b : Nat} {x y : Value} (h : Bk w b x y) (o : Obj) : Bk (w.alloc o) b x y := by
  unfold Bk; rw [Below.heap_alloc w o b h.lt]; exact h
theorem Bk.grown {w w' : World} {b : Nat} {x y : Value} {row : Option Nat} (h : Bk w b x y) (g : w.grownBy w' row) (hr : some b ≠ row) : Bk w' b x y := by
  unfold Bk; rw [g.block b h.lt hr]; exact h

/-- A store into a block of two cells is none into a row of digits. -/
theorem Rd.setBk {w : World} {ao : Option Addr} {cap : Nat} {l : List Int} (h : Rd w ao cap l) {b o : Nat} {x y : Value} (hb : Bk w b x y) (z : Value) : Rd (w.setCell ⟨b, o, none⟩ z) ao cap l := by
  refine h.set (fun a ha => ?_) z
  obtain ⟨b', cur, e, hb', _⟩ := h.row a ha
  subst e
  rintro e
  simp only [] at e
  subst e
  unfold Bk at hb
  rw [hb] at hb'
  simp at hb'

/-- One digit more at the end of a slice that lies in the second cell of block X, in rows of the call's own behind X. -/
theorem push_step {W wr w' : World} {X k : Nat} {s sv sv' d : Value} {xs : List Value} (hown : wr.ownsRow (X + 1) 69 1 sv k xs) (hB : Bk wr X s sv) (hb : Below X W wr)
    (hown' : w'.ownsRow (X + 1) 69 1 sv' (k + 1) (xs ++ [d])) (hg : (wr.alloc (.cells #[d] 69)).grownBy w' sv.ownBlock) :
    Bk w' X s sv ∧ (w'.setCell ⟨X, 1, none⟩ sv').ownsRow (X + 1) 69 1 sv' (k + 1) (xs ++ [d]) ∧ Bk (w'.setCell ⟨X, 1, none⟩ sv') X s sv' ∧ Below X W (w'.setCell ⟨X, 1, none⟩ sv') := by
  have hX := hB.lt
  have hne : some X ≠ sv.ownBlock := fun e => by have := hown.lt X e.symm; omega
  have hB' : Bk w' X s sv := (hB.alloc _).grown hg hne
  refine ⟨hB', ownsRow_setCell_below hown' (by simp) _, hB'.set1 _, ?_⟩
  refine Below.setCell ((hb.alloc (by omega) _).grown hg (by simp; omega) fun k hk => ?_) (by simp) _
  have := (hown.lt k hk).1; omega

theorem own_shape {w : World} {base e k : Nat} {v : Value} {xs : List Value} (h : w.ownsRow base e 1 v (k + 1) xs) : ∃ g cap, v = .slice (some ⟨g, 0, none⟩) (k + 1) cap := by
  rcases h.2 with ⟨_, hn⟩ | ⟨g, cap, cur, rfl, _⟩
  · omega
  · exact ⟨g, cap, rfl⟩

theorem ints_cells (w : World) (d : Value) : ∀ (j : Nat) (u : Value), [d][j]? = some u → (w.alloc (.cells #[d] 69)).cell? ((⟨w.heap.size, 0, none⟩ : Addr).add j) = some u := by
  intro j u hj
  match j, hj with
  | 0, hj => simp at hj; subst hj; simp [Addr.add]

theorem Try.info69 : (Try.prog.info? 69).map (fun i => (i.zero, i.size, i.bytes)) = some (some (.int .u64 0), 1, 8) := by kernel_rfl

/-- What a row of the call's own holds, as digits. -/
theorem Rd.of_own {w : World} {base : Nat} {sv : Value} {l : List Int} (h : w.ownsRow base 69 1 sv l.length (l.map (Value.int .u64))) (hd : ∀ d ∈ l, isD d) (hf : l.length ≤ 1000000) :
    ∃ ao cap, sv = .slice ao l.length cap ∧ Rd w ao cap l ∧ ∀ a, ao = some a → base ≤ a.block := by
  rcases h.2 with ⟨rfl, hn⟩ | ⟨g, cap, cur, rfl, hg, hh, hle, hm, hs, ht⟩
  · have : l = [] := List.eq_nil_of_length_eq_zero hn
    subst this
    exact ⟨none, 0, rfl, ⟨fun _ => ⟨rfl, rfl⟩, fun a ha => (by cases ha), Nat.le_refl _, (by unfold maxLen; omega), hd, hf⟩, fun a ha => (by cases ha)⟩
  · refine ⟨_, _, rfl, ⟨fun e => (by cases e), fun a ha => ?_, hle, hm, hd, hf⟩, fun a ha => (by cases ha; exact hg)⟩
    cases ha
    refine ⟨g, cur, rfl, hh, fun i hi => ?_⟩
    have hc := h.cells (g := g) rfl i (.int .u64 (dg l i)) (by simp [dg, List.getD, hi])
    have e : (⟨g, 0, none⟩ : Addr).add i = ⟨g, i, none⟩ := by unfold Addr.add; split <;> simp_all
    rw [e, cell_of_row w g i cur 69 (0, 0) hh] at hc
    exact hc

set_option maxHeartbeats 1000000 in
theorem uns_any (v : Int) (w : World) (h0 : 0 ≤ v) (h1 : v ≤ 18446744073709551615) :
    Calls Try.prog 69 #[.int .u64 v] w fun e w' => ∃ ao cap l, e = .returned (.agg #[.bool false, .slice ao l.length cap]) ∧ Rd w' ao cap l ∧ nrm l ∧ vals l = v ∧ Below w.heap.size w w' := by
  obtain ⟨i0, hi, hz0, hz1, hz2⟩ := info_parts Try.info69
  go_enter Try.func69, Try.ntmps69
  go_wp2
  go_loopw [0] (fun t wr => ∃ (k : Nat) (sv : Value), k ≤ 4 ∧ t = .int .u64 (unsR v k) ∧ (∀ j, j < k → 0 < unsR v j) ∧ wr.ownsRow (w.heap.size + 1 + 1) 69 1 sv k ((unsD v k).map (Value.int .u64)) ∧
      Bk wr (w.heap.size + 1) (.bool false) sv ∧ Below (w.heap.size + 1) (w.alloc (.cells #[.bool false, .slice none 0 0] 53)) wr) (fun t _ => (intOf t).toNat)
  case atStart => exact ⟨0, _, by omega, rfl, fun j hj => by omega, World.ownsRow_nil _ _ _ _, by simpa using Bk.new (w.alloc (.cells #[.bool false, .slice none 0 0] 53)) (.bool false) (.slice none 0 0), (Below.refl _ _).alloc (by simp) _⟩
  case round =>
    obtain ⟨k, sv, hk, rfl, hp, hown, hB, hb⟩ := hrel
    have c1 := hB.c1
    have hn := unsR_nonneg h0 k
    have hu : unsR v k ≤ 18446744073709551615 := Int.le_trans (unsR_le h0 k) h1
    by_cases hz : 0 < unsR v k
    · have hk4 := unsR_lt h0 h1 k hz
      have hbs := hb.size
      have hX := hB.lt
      go_wp2_with (at_builtin; refine wpList_append_own _ rfl (.tmp 7) (.tmp 10) 51 rfl (w.heap.size + 1 + 1) 69 i0 (.int .u64 0) 1 8 Try.underlying51 hi hz0 hz1 hz2 rfl (by decide) sv k _ rfl (hown.alloc _) ⟨wr.heap.size, 0, none⟩ 1 1 [.int .u64 (unsR v k % 65536)] rfl rfl (ints_cells _ _) (fun u hu => by simp at hu; subst hu; rfl) (by unfold maxLen; omega) (by omega) (by simp; omega) ?_)
      intro sv' w1 hown' hgrow _
      obtain ⟨g', cap', rfl⟩ := own_shape hown'
      obtain ⟨hB1, r1, r2, r3⟩ := push_step hown hB hb hown' hgrow
      have d1 := hB1.c1
      have d2 := hB1.f1
      clear hown' hgrow hown c1 hb hB hB1
      go_wp2
      go_roundw
      case rel => exact ⟨k + 1, _, by omega, rfl, fun j hj => by rcases Nat.lt_or_eq_of_le (Nat.le_of_lt_succ hj) with h | h; exact hp j h; exact h ▸ hz, by rw [unsD_succ, List.map_append]; exact r1, r2, r3⟩
      case measure => simp [intOf]; omega
    · have hz' : unsR v k = 0 := by omega
      have e := unsD_vals v k
      rw [hz', Int.zero_mul, Int.add_zero] at e
      have E : Hid (vals (unsD v k) = v) := e
      have hnr := unsD_nrm k hz' hp
      have hl := unsD_len v k
      obtain ⟨ao, cap, rfl, hRd, hbl⟩ := Rd.of_own (l := unsD v k) (by rw [hl]; exact hown) (unsD_isD v k) (by omega)
      have HL : Hid ((unsD v k).length = k) := hl
      clear e hl hz'
      have c0 := hB.c0
      have q0 : wr.cell? ⟨w.heap.size, 0, none⟩ = some (.bool false) := (hb.cell (p := ⟨w.heap.size, 0, none⟩) (by simp)).trans (by simp)
      have q1 : wr.cell? ⟨w.heap.size, 1, none⟩ = some (.slice none 0 0) := (hb.cell (p := ⟨w.heap.size, 1, none⟩) (by simp)).trans (by simp)
      have q2 : wr.frozen? ⟨w.heap.size, 0, none⟩ = false := (hb.frozen (p := ⟨w.heap.size, 0, none⟩) (by simp)).trans (by simp)
      have q3 : wr.frozen? ⟨w.heap.size, 1, none⟩ = false := (hb.frozen (p := ⟨w.heap.size, 1, none⟩) (by simp)).trans (by simp)
      go_wp2
      refine bodyPost_ret (v := .agg #[.bool false, .slice ao (unsD v k).length cap]) (by simp [results, Try.results69, go_sem, q0, q1]) rfl ⟨ao, cap, unsD v k, rfl, ?_, hnr, E.out, ?_⟩
      · exact (hRd.set (fun a ha => by have := hbl a ha; simp; omega) _).set (fun a ha => by have := hbl a ha; simp; omega) _
      · exact ((((Below.refl _ _).alloc (Nat.le_refl _) _).trans (hb.mono (by omega))).setCell (by simp) _).setCell (by simp) _
end
end Go.Proofs.Ytljdnahomhbenaa
