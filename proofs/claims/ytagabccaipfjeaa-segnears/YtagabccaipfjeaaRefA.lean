/- Contracts of the reference's whole numbers of any length: rows of words without noughts at the end. Contracts of the reference's numbers: of, sign, other, number. Contracts of the reference's numbers: other, sign, low. Contract of the reference's low: which of two rows of words is less. -/
import Derived.Test.YtagabccaipfjeaaProdP
import Derived.Test.YtagabccaipfjeaaBase
import Derived.Test.YtagabccaipfjeaaSg3
import Derived.Deep.LoopGhost
import Derived.Deep.DeepMust
import Derived.Deep.QuietTactic
namespace Go.Proofs.Ytagabccaipfjeaa
section
open Go.RowKit Go.Sort

/-- The slice at 'ao', of this capacity, holds these words, in a row of the type of words. -/
structure Rd (w : World) (ao : Option Addr) (cap : Nat) (l : List Int) : Prop where
  nil : ao = none → l = [] ∧ cap = 0
  row : ∀ a, ao = some a → ∃ b cur, a = ⟨b, 0, none⟩ ∧ w.heap[b]? = some (.cells cur 80 (0, 0)) ∧ ∀ i, i < l.length → cur[i]? = some (.int .u32 (dg l i))
  le : l.length ≤ cap
  cap : cap ≤ 100000
  dig : ∀ d ∈ l, isD d
theorem Rd.gr {w w' : World} {ao : Option Addr} {cap : Nat} {l : List Int} (h : Rd w ao cap l) (g : Gr w w') : Rd w' ao cap l :=
  ⟨h.nil, fun a ha => by
    obtain ⟨b, cur, e, hb, hc⟩ := h.row a ha
    exact ⟨b, cur, e, (g.below.block b (lt_of_block hb)).trans hb, hc⟩, h.le, h.cap, h.dig⟩
theorem Rd.at {w : World} {b : Nat} {cap : Nat} {l : List Int} (h : Rd w (some ⟨b, 0, none⟩) cap l) {i : Nat} (hi : i < l.length) : w.cell? ⟨b, i, none⟩ = some (.int .u32 (dg l i)) := by
  obtain ⟨b', cur, e, hb, hc⟩ := h.row _ rfl
  simp only [Addr.mk.injEq] at e
  obtain ⟨rfl, _⟩ := e
  rw [cell_of_row w b i cur 80 (0, 0) hb]; exact hc i hi
theorem Rd.has {w : World} {ao : Option Addr} {cap : Nat} {l : List Int} (h : Rd w ao cap l) (hn : 0 < l.length) : ∃ b, ao = some ⟨b, 0, none⟩ := by
  cases ao with
  | none => have := (h.nil rfl).1; subst this; simp at hn
  | some a => obtain ⟨b, cur, e, _⟩ := h.row a rfl; exact ⟨b, by rw [e]⟩
theorem Rd.take {w : World} {ao : Option Addr} {cap : Nat} {l : List Int} (h : Rd w ao cap l) (n : Nat) (hn : n ≤ l.length) : Rd w ao cap (l.take n) :=
  ⟨fun e => by obtain ⟨rfl, h2⟩ := h.nil e; exact ⟨by simp, h2⟩, fun a ha => by
    obtain ⟨b, cur, e, hb, hc⟩ := h.row a ha
    exact ⟨b, cur, e, hb, fun i hi => by
      rw [List.length_take] at hi
      rw [dg_take l n i (by omega)]; exact hc i (by omega)⟩, by rw [List.length_take]; have := h.le; omega, h.cap, fun d hd => h.dig d (List.mem_of_mem_take hd)⟩
theorem Rd.trim {w : World} {ao : Option Addr} {cap : Nat} {l : List Int} (h : Rd w ao cap l) : Rd w ao cap (trim l) := h.take _ (tl_le _ _)
/-- A store into a block that is no row of words. -/
theorem Rd.set {w : World} {ao : Option Addr} {cap : Nat} {l : List Int} (h : Rd w ao cap l) {p : Addr} (hp : ∀ cur, w.heap[p.block]? ≠ some (.cells cur 80 (0, 0))) (z : Value) : Rd (w.setCell p z) ao cap l :=
  ⟨h.nil, fun a ha => by
    obtain ⟨b, cur, e, hb, hc⟩ := h.row a ha
    have hne : b ≠ p.block := fun q => by rw [q] at hb; exact hp cur hb
    exact ⟨b, cur, e, (Below.heap_setCell _ _ _ _ hne).trans hb, hc⟩, h.le, h.cap, h.dig⟩

set_option maxRecDepth 20000 in
set_option maxHeartbeats 1000000 in
theorem made_any (s : Bool) (ao : Option Addr) (cap : Nat) (l : List Int) (w : World) (h : Rd w ao cap l) :
    Calls Try.prog 57 #[.bool s, .slice ao l.length cap] w fun e w' => e = .returned (.agg #[.bool (s && (tl (dg l) l.length != 0)), .slice ao (tl (dg l) l.length) cap]) ∧ Gr w w' := by
  have hm := h.cap
  have hle := h.le
  have hG : Gr w (w.alloc (.cells #[.bool false, .slice none 0 0] 51)) := (Gr.refl _).alloc _
  go_enter Try.func57, Try.ntmps57
  go_wp2
  go_loop [5] (fun t => ∃ k : Nat, k ≤ l.length ∧ t = .int .i64 k ∧ Hid (tl (dg l) l.length = tl (dg l) k)) (fun t => (intOf t).toNat)
  case atStart => exact ⟨l.length, Nat.le_refl _, rfl, rfl⟩
  case round =>
    obtain ⟨k, hk, rfl, hE⟩ := hrel
    by_cases h0 : k = 0
    · subst h0
      have E : Hid (tl (dg l) l.length = 0) := hE.out
      cases s <;>
      · go_wp2
        refine bodyPost_ret (v := .agg #[.bool false, .slice ao 0 cap]) (by simp [results, Try.results57, go_sem]) rfl ⟨by first | (rw [E.out]; done) | (rw [E.out]; simp), (Gr.refl _).alloc _⟩
    · obtain ⟨b, rfl⟩ := h.has (by omega)
      have hc := h.at (i := k - 1) (by omega)
      obtain ⟨j, rfl⟩ := Nat.exists_eq_succ_of_ne_zero h0
      simp only [Nat.succ_eq_add_one, Nat.add_sub_cancel] at hc
      have hc' := below_cell hc hG.below
      by_cases hz : dg l j = 0
      · have E : Hid (tl (dg l) l.length = tl (dg l) j) := by have := hE.out; rw [Nat.succ_eq_add_one, tl_succ, if_pos hz] at this; exact this
        rw [hz] at hc hc'
        go_wp2
        go_round
        case rel => exact ⟨j, by omega, by go_num, E⟩
        case measure => simp [intOf]
      · have E : Hid (tl (dg l) l.length = j + 1) := by have := hE.out; rw [Nat.succ_eq_add_one, tl_succ, if_neg hz] at this; exact this
        have hz' : (dg l j == 0) = false := by simp [hz]
        cases s with
        | false =>
          go_wp2
          refine bodyPost_ret (v := .agg #[.bool false, .slice (some ⟨b, 0, none⟩) (j + 1) cap]) (by simp [results, Try.results57, go_sem]) rfl ⟨by first | (rw [E.out]; done) | (rw [E.out]; simp), (Gr.refl _).alloc _⟩
        | true =>
          go_wp2
          refine bodyPost_ret (v := .agg #[.bool true, .slice (some ⟨b, 0, none⟩) (j + 1) cap]) (by simp [results, Try.results57, go_sem]) rfl ⟨by first | (rw [E.out]; done) | (rw [E.out]; simp), (Gr.refl _).alloc _⟩

/-- A whole number in memory, of at most L words. -/
def Nm (w : World) (x : Value) (n : Int) (L : Nat) : Prop := ∃ ao cap l, x = .agg #[.bool (decide (n < 0)), .slice ao l.length cap] ∧ Rd w ao cap l ∧ nrm l ∧ vals l = n.natAbs ∧ l.length ≤ L
theorem Nm.gr {w w' : World} {x : Value} {n : Int} {L : Nat} (h : Nm w x n L) (g : Gr w w') : Nm w' x n L := by
  obtain ⟨ao, cap, l, e, hr, r⟩ := h; exact ⟨ao, cap, l, e, hr.gr g, r⟩
theorem Nm.le {w : World} {x : Value} {n : Int} {L M : Nat} (h : Nm w x n L) (k : L ≤ M) : Nm w x n M := by
  obtain ⟨ao, cap, l, e, hr, a, b, c⟩ := h; exact ⟨ao, cap, l, e, hr, a, b, Nat.le_trans c k⟩
theorem Nm.shape {w : World} {x : Value} {n : Int} {L : Nat} (h : Nm w x n L) : ∃ r ao len cap, x = .agg #[.bool r, .slice ao len cap] ∧ Hid (Nm w (.agg #[.bool r, .slice ao len cap]) n L) := by
  have h' := h
  obtain ⟨ao, cap, l, e, _⟩ := h
  subst e
  exact ⟨_, _, _, _, rfl, h'⟩
theorem flag {l : List Int} (hd : allD (dg l)) {n : Int} {r : Bool} (hv : vals l = n.natAbs) (hr : r = true → n ≤ 0) (hr' : r = false → 0 ≤ n) : (r && (tl (dg l) l.length != 0)) = decide (n < 0) := by
  have e := trim_vals l
  have z := nrm_zero (l := trim l) (allD_of (trim_mem (fun d hd' => by
    obtain ⟨i, hi, rfl⟩ := List.getElem_of_mem hd'
    have := hd i
    unfold dg at this
    simpa [List.getD, hi] using this))) (trim_nrm l)
  have tz : tl (dg l) l.length = 0 ↔ n = 0 := by
    rw [← trim_len]
    constructor
    · intro h
      have : trim l = [] := List.eq_nil_of_length_eq_zero h
      have := z.mpr this
      omega
    · intro h
      have : trim l = [] := z.mp (by omega)
      rw [this]; rfl
  cases r with
  | false => have := hr' rfl; simp; omega
  | true =>
    have := hr rfl
    rw [Bool.true_and, Bool.eq_iff_iff, bne_iff_ne, decide_eq_true_iff]
    constructor
    · intro h; have : n ≠ 0 := fun q => h (tz.mpr q); omega
    · intro h q; have := tz.mp q; omega
theorem Nm.set {w : World} {x : Value} {n : Int} {L : Nat} (h : Nm w x n L) {p : Addr} (hp : ∀ cur, w.heap[p.block]? ≠ some (.cells cur 80 (0, 0))) (z : Value) : Nm (w.setCell p z) x n L := by
  obtain ⟨ao, cap, l, e, hr, r⟩ := h; exact ⟨ao, cap, l, e, hr.set hp z, r⟩
def Wh (w : World) (b : Nat) (x0 x1 : Value) : Prop := w.heap[b]? = some (.cells #[x0, x1] 51 (0, 0))
section
variable {w w' : World} {b : Nat} {x0 x1 : Value}
theorem Wh.lt (h : Wh w b x0 x1) : b < w.heap.size := lt_of_block h
theorem Wh.c0 (h : Wh w b x0 x1) : w.cell? ⟨b, 0, none⟩ = some x0 := by unfold Wh at h; simp [World.cell?, h]
theorem Wh.c1 (h : Wh w b x0 x1) : w.cell? ⟨b, 1, none⟩ = some x1 := by unfold Wh at h; simp [World.cell?, h]
theorem Wh.f (h : Wh w b x0 x1) (o : Nat) : w.frozen? ⟨b, o, none⟩ = false := by unfold Wh at h; simp [World.frozen?, h]
theorem Wh.at (h : Wh w b x0 x1) : w.heap[b]'(h.lt) = .cells #[x0, x1] 51 (0, 0) := by
  have hlt := h.lt
  unfold Wh at h; simpa [Array.getElem?_eq_getElem hlt] using h
theorem Wh.s0 (h : Wh w b x0 x1) (z : Value) : Wh (w.setCell ⟨b, 0, none⟩ z) b z x1 := by
  have hlt := h.lt
  show (w.heap.modify b _)[b]? = _
  rw [Array.getElem?_eq_getElem (by simpa using hlt), Array.getElem_modify_self, h.at]; rfl
theorem Wh.s1 (h : Wh w b x0 x1) (z : Value) : Wh (w.setCell ⟨b, 1, none⟩ z) b x0 z := by
  have hlt := h.lt
  show (w.heap.modify b _)[b]? = _
  rw [Array.getElem?_eq_getElem (by simpa using hlt), Array.getElem_modify_self, h.at]; rfl
theorem Wh.mono {B : Nat} (h : Wh w b x0 x1) (g : Below B w w') (hb : b < B) : Wh w' b x0 x1 := by
  unfold Wh; rw [g.block b hb]; exact h
theorem Wh.other (h : Wh w b x0 x1) {p : Addr} (hp : b ≠ p.block) (z : Value) : Wh (w.setCell p z) b x0 x1 := by
  unfold Wh; rw [Below.heap_setCell _ _ _ _ hp]; exact h
theorem Wh.gr (h : Wh w b x0 x1) (g : Gr w w') : Wh w' b x0 x1 := h.mono g.below h.lt
end
theorem Wh.new (w : World) (x0 x1 : Value) : Wh (w.alloc (.cells #[x0, x1] 51)) w.heap.size x0 x1 := heap_alloc_new w _
theorem Wh.no {w : World} {b : Nat} {x0 x1 : Value} (h : Wh w b x0 x1) : ∀ cur, w.heap[b]? ≠ some (.cells cur 80 (0, 0)) := fun cur e => by unfold Wh at h; rw [h] at e; simp at e
theorem Nm.setW {w : World} {x : Value} {n : Int} {L : Nat} (h : Nm w x n L) {b : Nat} {x0 x1 : Value} (hb : Wh w b x0 x1) (y0 y1 : Value) : Nm ((w.setCell ⟨b, 0, none⟩ y0).setCell ⟨b, 1, none⟩ y1) x n L :=
  (h.set (p := ⟨b, 0, none⟩) hb.no y0).set (p := ⟨b, 1, none⟩) (hb.s0 y0).no y1
/-- made, of a number's words. -/
theorem made_num (s : Bool) (ao : Option Addr) (cap : Nat) (l : List Int) (n : Int) (L : Nat) (w : World) (h : Rd w ao cap l) (hv : vals l = n.natAbs) (h1 : s = true → n ≤ 0) (h2 : s = false → 0 ≤ n) (hL : l.length ≤ L) :
    Calls Try.prog 57 #[.bool s, .slice ao l.length cap] w fun e w' => ∃ z, e = .returned z ∧ Nm w' z n L ∧ Gr w w' := by
  refine (made_any s ao cap l w h).mono ?_
  rintro e w' ⟨rfl, g⟩
  refine ⟨_, rfl, ⟨ao, cap, trim l, ?_, (h.gr g).trim, trim_nrm l, by rw [trim_vals]; exact hv, ?_⟩, g⟩
  · rw [trim_len, flag (allD_of h.dig) hv h1 h2]
  · rw [trim_len]; have := tl_le (dg l) l.length; omega
end
section
open Go.RowKit Go.Sort

def wd2 (v : Int) : List Int := [v % 4294967296, v / 4294967296]
theorem wd2_vals (v : Int) : vals (wd2 v) = v := by
  show 0 + (v % 4294967296) * 1 + (v / 4294967296) * (1 * 4294967296) = v
  omega
theorem wd2_isD {v : Int} (h0 : 0 ≤ v) (h1 : v ≤ 18446744073709551615) : ∀ d ∈ wd2 v, isD d := by
  intro d hd
  unfold wd2 at hd
  simp at hd
  unfold isD
  rcases hd with rfl | rfl <;> omega
theorem Rd.two (w : World) (x y : Int) (hd : ∀ d ∈ [x, y], isD d) : Rd (w.alloc (.cells #[.int .u32 x, .int .u32 y] 80)) (some ⟨w.heap.size, 0, none⟩) 2 [x, y] :=
  ⟨fun h => (by cases h), fun a ha => ⟨w.heap.size, #[.int .u32 x, .int .u32 y], (Option.some.inj ha).symm, heap_alloc_new w _, fun i hi => by
    have hi' : i < 2 := hi
    match i, hi' with
    | 0, _ => rfl
    | 1, _ => rfl⟩, Nat.le_refl _, by omega, hd⟩

set_option maxHeartbeats 1000000 in
theorem of_num (n : Int) (w : World) (h0 : -9223372036854775808 ≤ n) (h1 : n ≤ 9223372036854775807) :
    Calls Try.prog 45 #[.int .i64 n] w fun e w' => ∃ z, e = .returned z ∧ Nm w' z n 2 ∧ Gr w w' := by
  have ab := absI_bd h0 h1
  have hv := wd2_vals (absI n)
  have hD := wd2_isD ab.1 (by omega)
  have ea : absI n = n.natAbs := by unfold absI; split <;> omega
  have K : ∀ (s : Bool), s = decide (n < 0) → Hid (∀ (W : World), Calls Try.prog 57 #[.bool s, .slice (some ⟨W.heap.size, 0, none⟩) 2 2] (W.alloc (.cells #[.int .u32 (absI n % 4294967296), .int .u32 (absI n / 4294967296)] 80)) fun e w' => ∃ z, e = .returned z ∧ Nm w' z n 2 ∧ Gr (W.alloc (.cells #[.int .u32 (absI n % 4294967296), .int .u32 (absI n / 4294967296)] 80)) w') := by
    intro s hs W
    exact made_num s (some ⟨W.heap.size, 0, none⟩) 2 (wd2 (absI n)) n 2 _ (Rd.two W _ _ hD) (by rw [hv, ea]) (fun e => by rw [hs] at e; simp at e; omega) (fun e => by rw [hs] at e; simp at e; omega) (by simp [wd2])
  by_cases hn : n < 0
  · have K' := K true (by simp [hn])
    have e1 : absI n = -n := by unfold absI; rw [if_pos hn]
    rw [e1] at K' ab
    clear K hv hD ea e1
    have c1 : IntKind.u64.wrap n = 18446744073709551616 + n := by rw [IntKind.wrap_u64]; omega
    have c2 : IntKind.u64.wrap (-(18446744073709551616 + n)) = -n := by rw [IntKind.wrap_u64]; omega
    generalize hN : -n = N at *
    have c3 : N.tmod 4294967296 = N % 4294967296 := Int.tmod_eq_emod_of_nonneg ab.1
    have c4 : N.tdiv 4294967296 = N / 4294967296 := Int.tdiv_eq_ediv_of_nonneg ab.1
    have c5 : IntKind.u64.wrap (N / 4294967296) = N / 4294967296 := by rw [IntKind.wrap_u64]; omega
    have c6 : N % 4294967296 % 4294967296 = N % 4294967296 := by omega
    have c7 : N / 4294967296 % 4294967296 = N / 4294967296 := by omega
    generalize N % 4294967296 = U at *
    generalize N / 4294967296 = V at *
    go_enter Try.func45, Try.ntmps45
    go_wp2_with fail
    refine Calls.mono (by simpa only [World.size_alloc] using K'.out (w.alloc (.cells #[.bool false, .slice none 0 0] 51))) ?_
    rintro e w1 ⟨z, rfl, hz, q1⟩
    obtain ⟨r1, o1, l1, k1, rfl, hz1⟩ := hz.shape
    clear hz
    have hW := ((Wh.new w (.bool false) (.slice none 0 0)).gr ((Gr.refl _).alloc _)).gr q1
    have d0 := hW.c0
    have d1 := hW.c1
    have df := hW.f
    go_wp2
    refine bodyPost_ret (v := .agg #[.bool r1, .slice o1 l1 k1]) (by simp [results, Try.results45, go_sem, d0, d1]) rfl ⟨_, rfl, ?_, ?_⟩
    · exact hz1.out.setW hW _ _
    · exact (((((Gr.refl _).alloc _).alloc _).trans q1).setCell (by simp only []; omega) _).setCell (by simp only []; omega) _
  · have K' := K false (by simp [hn])
    have e1 : absI n = n := by unfold absI; rw [if_neg hn]
    rw [e1] at K' ab
    clear K hv hD ea e1
    have c1 : IntKind.u64.wrap n = n := by rw [IntKind.wrap_u64]; omega
    have c3 : n.tmod 4294967296 = n % 4294967296 := Int.tmod_eq_emod_of_nonneg ab.1
    have c4 : n.tdiv 4294967296 = n / 4294967296 := Int.tdiv_eq_ediv_of_nonneg ab.1
    have c5 : IntKind.u64.wrap (n / 4294967296) = n / 4294967296 := by rw [IntKind.wrap_u64]; omega
    have c6 : n % 4294967296 % 4294967296 = n % 4294967296 := by omega
    have c7 : n / 4294967296 % 4294967296 = n / 4294967296 := by omega
    generalize n % 4294967296 = U at *
    generalize n / 4294967296 = V at *
    go_enter Try.func45, Try.ntmps45
    go_wp2_with fail
    refine Calls.mono (by simpa only [World.size_alloc] using K'.out (w.alloc (.cells #[.bool false, .slice none 0 0] 51))) ?_
    rintro e w1 ⟨z, rfl, hz, q1⟩
    obtain ⟨r1, o1, l1, k1, rfl, hz1⟩ := hz.shape
    clear hz
    have hW := ((Wh.new w (.bool false) (.slice none 0 0)).gr ((Gr.refl _).alloc _)).gr q1
    have d0 := hW.c0
    have d1 := hW.c1
    have df := hW.f
    go_wp2
    refine bodyPost_ret (v := .agg #[.bool r1, .slice o1 l1 k1]) (by simp [results, Try.results45, go_sem, d0, d1]) rfl ⟨_, rfl, ?_, ?_⟩
    · exact hz1.out.setW hW _ _
    · exact (((((Gr.refl _).alloc _).alloc _).trans q1).setCell (by simp only []; omega) _).setCell (by simp only []; omega) _
end
section
open Go.RowKit Go.Sort

set_option maxHeartbeats 1000000 in
theorem other_num (x : Value) (n : Int) (L : Nat) (w : World) (h : Nm w x n L) : Calls Try.prog 44 #[x] w fun e w' => ∃ z, e = .returned z ∧ Nm w' z (-n) L ∧ Gr w w' := by
  obtain ⟨ao, cap, l, rfl, hr, hn, hv, hL⟩ := h
  have K : Hid (∀ W, Gr w W → Calls Try.prog 57 #[.bool (!decide (n < 0)), .slice ao l.length cap] W fun e w' => ∃ z, e = .returned z ∧ Nm w' z (-n) L ∧ Gr W w') := fun W g =>
    made_num _ ao cap l (-n) L W (hr.gr g) (by rw [hv, Int.natAbs_neg]) (fun e => by simp at e; omega) (fun e => by simp at e; omega) hL
  clear hr hn hv hL
  generalize decide (n < 0) = B at *
  go_enter Try.func44, Try.ntmps44
  go_wp2_with fail
  refine Calls.mono (K.out _ (((Gr.refl _).alloc _).alloc _)) ?_
  rintro e w1 ⟨z, rfl, hz, q1⟩
  obtain ⟨r1, o1, l1, k1, rfl, hz1⟩ := hz.shape
  clear hz
  have hW : Wh w1 (w.heap.size + 1) (.bool false) (.slice none 0 0) := by
    have := (Wh.new (w.alloc (.cells #[.bool B, .slice ao l.length cap] 51)) (.bool false) (.slice none 0 0))
    simp only [World.size_alloc] at this
    exact this.gr q1
  have d0 := hW.c0
  have d1 := hW.c1
  have df := hW.f
  go_wp2
  refine bodyPost_ret (v := .agg #[.bool r1, .slice o1 l1 k1]) (by simp [results, Try.results44, go_sem, d0, d1]) rfl ⟨_, rfl, ?_, ?_⟩
  · exact hz1.out.setW hW _ _
  · exact (((((Gr.refl _).alloc _).alloc _).trans q1).setCell (by simp only []; omega) _).setCell (by simp only []; omega) _

set_option maxHeartbeats 1000000 in
theorem sign_num (x : Value) (n : Int) (L : Nat) (w : World) (h : Nm w x n L) : Calls Try.prog 42 #[x] w fun e w' => e = .returned (.int .i64 (cmpI n 0)) ∧ Gr w w' := by
  obtain ⟨ao, cap, l, rfl, hr, hn, hv, hL⟩ := h
  have hm := hr.cap
  have hle := hr.le
  have z := nrm_zero (allD_of hr.dig) hn
  by_cases h0 : n < 0
  · have E : cmpI n 0 = -1 := by unfold cmpI; rw [if_pos h0]
    have hB : decide (n < 0) = true := by simp [h0]
    rw [E, hB]
    go_enter Try.func42, Try.ntmps42
    go_wp2
    go_ret
    exact ⟨rfl, (Gr.refl _).alloc _⟩
  · have hB : decide (n < 0) = false := by simp [h0]
    rw [hB]
    by_cases h1 : n = 0
    · have E : cmpI n 0 = 0 := by rw [h1]; rfl
      have : l = [] := z.mp (by omega)
      subst this
      rw [E]
      go_enter Try.func42, Try.ntmps42
      go_wp2
      all_goals
        go_ret
        exact ⟨rfl, (Gr.refl _).alloc _⟩
    · have E : cmpI n 0 = 1 := by unfold cmpI; rw [if_neg h0, if_pos (by omega)]
      have hl : 0 < l.length := by
        rcases Nat.eq_zero_or_pos l.length with k | k
        · have := z.mpr (List.eq_nil_of_length_eq_zero k); omega
        · exact k
      have hl' : (1 : Int) ≤ (l.length : Int) := by omega
      rw [E]
      clear z hn hv
      go_enter Try.func42, Try.ntmps42
      go_wp2
      all_goals
        go_ret
        exact ⟨by first | rfl | (exfalso; omega), (Gr.refl _).alloc _⟩
end
section
open Go.RowKit Go.Sort

theorem short_lt {a b : List Int} (hda : allD (dg a)) (hdb : allD (dg b)) (hn : nrm b) (h : a.length < b.length) : vals a < vals b := by
  have h1 := (vl_bd hda a.length).2
  have h2 := nrm_low hdb hn (by omega)
  have h3 := pw_mono (j := a.length) (k := b.length - 1) (by omega)
  unfold vals at *
  omega
set_option maxRecDepth 20000 in
set_option maxHeartbeats 2000000 in
theorem low_any (ao bo : Option Addr) (ca cb : Nat) (a b : List Int) (w : World) (ha : Rd w ao ca a) (hb : Rd w bo cb b) (na : nrm a) (nb : nrm b) :
    Calls Try.prog 59 #[.slice ao a.length ca, .slice bo b.length cb] w fun e w' => e = .returned (.int .i64 (cmpI (vals a) (vals b))) ∧ Gr w w' := by
  have hda := allD_of ha.dig
  have hdb := allD_of hb.dig
  have f1 := ha.cap
  have f2 := ha.le
  have f3 := hb.cap
  have f4 := hb.le
  by_cases hlt : a.length < b.length
  · have E : Hid (cmpI (vals a) (vals b) = -1) := by unfold Hid cmpI; rw [if_pos (short_lt hda hdb nb hlt)]
    have e1 : ((a.length : Int) == (b.length : Int)) = false := by rw [beq_eq_false_iff_ne]; omega
    clear ha hb na nb hda hdb
    go_enter Try.func59, Try.ntmps59
    go_wp2
    go_ret
    exact ⟨by rw [E.out]; rfl, Gr.refl _⟩
  · by_cases hgt : b.length < a.length
    · have E : Hid (cmpI (vals a) (vals b) = 1) := by have := short_lt hdb hda na hgt; unfold Hid cmpI; rw [if_neg (by omega), if_pos this]
      have e1 : ((a.length : Int) == (b.length : Int)) = false := by rw [beq_eq_false_iff_ne]; omega
      clear ha hb na nb hda hdb
      go_enter Try.func59, Try.ntmps59
      go_wp2
      go_ret
      exact ⟨by rw [E.out]; rfl, Gr.refl _⟩
    · have hab : a.length = b.length := by omega
      have HA : Hid (Rd w ao ca a) := ha
      have HB : Hid (Rd w bo cb b) := hb
      have E2 : ∀ d1 d2 : Int, True := fun _ _ => trivial
      clear na nb ha hb hlt hgt E2
      have oA : ∀ j, a.length ≤ j → dg a j = 0 := fun j hj => dg_out a j hj
      have oB : ∀ j, b.length ≤ j → dg b j = 0 := fun j hj => dg_out b j hj
      have hA0 : 0 < a.length → ∃ x, ao = some ⟨x, 0, none⟩ := fun h => HA.out.has h
      have hB0 : 0 < b.length → ∃ x, bo = some ⟨x, 0, none⟩ := fun h => HB.out.has h
      have cA : Hid (∀ wr x m, ao = some ⟨x, 0, none⟩ → m < a.length → Gr w wr → wr.cell? ⟨x, m, none⟩ = some (.int .u32 (dg a m))) := fun wr x m e h g => by subst e; exact (HA.out.gr g).at h
      have cB : Hid (∀ wr x m, bo = some ⟨x, 0, none⟩ → m < b.length → Gr w wr → wr.cell? ⟨x, m, none⟩ = some (.int .u32 (dg b m))) := fun wr x m e h g => by subst e; exact (HB.out.gr g).at h
      clear HA HB
      generalize a.length = n at *
      subst hab
      go_enter Try.func59, Try.ntmps59
      go_wp2
      go_loopw [5] (fun i wr => ∃ k : Nat, k ≤ b.length ∧ i = .int .i64 ((k : Int) - 1) ∧ Hid (∀ j, k ≤ j → dg a j = dg b j) ∧ Gr w wr) (fun i _ => (intOf i + 1).toNat)
      case atStart => exact ⟨b.length, Nat.le_refl _, rfl, fun j hj => by rw [oA j hj, oB j hj], Gr.refl _⟩
      case round =>
        obtain ⟨k, hk, rfl, he, hg⟩ := hrel
        by_cases h0 : k = 0
        · subst h0
          have E : Hid (cmpI (vals a) (vals b) = 0) := (cmpI_zero _ _).2 (size_eq fun j => he.out j (Nat.zero_le _))
          go_wp2
          go_ret
          exact ⟨by rw [E.out]; rfl, hg⟩
        · obtain ⟨m, rfl⟩ := Nat.exists_eq_succ_of_ne_zero h0
          rw [show ((m.succ : Nat) : Int) - 1 = (m : Int) from by omega]
          obtain ⟨x, rfl⟩ := hA0 (by omega)
          obtain ⟨y, rfl⟩ := hB0 (by omega)
          have c1 := cA.out wr x m rfl (by omega) hg
          have c2 := cB.out wr y m rfl (by omega) hg
          have m2 : m < b.length := by omega
          have z2 : (m : Int) < (b.length : Int) := by omega
          rcases Int.lt_trichotomy (dg a m) (dg b m) with h | h | h
          · have E : Hid (cmpI (vals a) (vals b) = -1) := by
              unfold Hid cmpI; rw [if_pos (size_lt hda hdb m h fun j hj => he.out j hj)]
            clear he hda hdb
            go_wp2
            go_quiet (fail)
            go_wp2
            go_ret
            exact ⟨by rw [E.out]; rfl, hg.trans ⟨nq, #[], by rw [grow_empty]⟩⟩
          · have h3 : ¬ dg a m < dg b m := by omega
            have h4 : ¬ dg b m < dg a m := by omega
            have H : Hid (dg a m = dg b m) := h
            clear h hda hdb
            go_wp2
            go_quiet (fail)
            have g2 : Gr w (wr.drewN nq) := hg.trans ⟨nq, #[], by rw [grow_empty]⟩
            replace c1 := cA.out _ x m rfl (by omega) g2
            replace c2 := cB.out _ y m rfl (by omega) g2
            generalize wr.drewN nq = W2 at *
            go_wp2
            go_quiet (fail)
            have g3 : Gr w (W2.drewN nq) := g2.trans ⟨nq, #[], by rw [grow_empty]⟩
            go_wp2
            go_roundw
            case rel => exact ⟨m, by omega, by go_num, fun j hj => (by rcases Nat.lt_or_eq_of_le hj with q | q; exact he.out j q; exact q ▸ H.out), g3⟩
            case measure => simp [intOf]
          · have E : Hid (cmpI (vals a) (vals b) = 1) := by
              have := size_lt hdb hda m h fun j hj => (he.out j hj).symm
              unfold Hid cmpI; rw [if_neg (by omega), if_pos this]
            have h3 : ¬ dg a m < dg b m := by omega
            clear he hda hdb
            go_wp2
            go_quiet (fail)
            have g2 : Gr w (wr.drewN nq) := hg.trans ⟨nq, #[], by rw [grow_empty]⟩
            replace c1 := cA.out _ x m rfl (by omega) g2
            replace c2 := cB.out _ y m rfl (by omega) g2
            generalize wr.drewN nq = W2 at *
            go_wp2
            go_quiet (fail)
            have g3 : Gr w (W2.drewN nq) := g2.trans ⟨nq, #[], by rw [grow_empty]⟩
            go_wp2
            go_ret
            exact ⟨by rw [E.out]; rfl, g3⟩
end
end Go.Proofs.Ytagabccaipfjeaa
