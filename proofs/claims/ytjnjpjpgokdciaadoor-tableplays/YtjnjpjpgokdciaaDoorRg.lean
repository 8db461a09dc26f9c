/- The document's own table: a row of pairs; where a number stands in it; Get, Next. same, first. -/
import Derived.Test.YtjnjpjpgokdciaaDoorPa
set_option linter.unusedSimpArgs false
set_option linter.unusedVariables false
namespace Go.Proofs.YtjnjpjpgokdciaaDoor
open Go.RowKit Go.Sort Go.Shelf

/-- Pairs that a slice reads. -/
def Ps (w : World) (ao : Option Addr) (l : List En) : Prop := ∀ (k : Nat) (x : En), l[k]? = some x → ∃ b off, ao = some ⟨b, off, none⟩ ∧ w.cell? ⟨b, off + k * 2, none⟩ = some (.int .u32 x.1) ∧ w.cell? ⟨b, off + k * 2 + 1, none⟩ = some (.int .i64 x.2.1)
theorem Ps.kp {w w' : World} {ao : Option Addr} {l : List En} (h : Ps w ao l) (e : ∀ b off, ao = some ⟨b, off, none⟩ → w'.heap[b]? = w.heap[b]?) : Ps w' ao l := fun k x hx => by
  obtain ⟨b, off, e1, h0, h1⟩ := h k x hx
  have := e b off e1
  refine ⟨b, off, e1, ?_, ?_⟩
  · rw [← h0]; simp only [World.cell?, this]
  · rw [← h1]; simp only [World.cell?, this]
theorem Ps.below {w w' : World} {ao : Option Addr} {l : List En} (h : Ps w ao l) (g : Below w.heap.size w w') : Ps w' ao l := fun k x hx => by
  obtain ⟨b, off, e, h0, h1⟩ := h k x hx
  exact ⟨b, off, e, below_cell h0 g, below_cell h1 g⟩
theorem Ps.gr {w w' : World} {ao : Option Addr} {l : List En} (h : Ps w ao l) (g : Gr w w') : Ps w' ao l := h.below g.below
theorem Ps.take {w : World} {ao : Option Addr} {l : List En} (h : Ps w ao l) (k : Nat) : Ps w ao (l.take k) := fun j x hx => by
  rw [List.getElem?_take] at hx
  split at hx
  · exact h j x hx
  · cases hx
theorem cP_at : ∀ {l : List En} {k : Nat} {x : En}, l[k]? = some x → (cP l)[k * 2]? = some (.int .u32 x.1) ∧ (cP l)[k * 2 + 1]? = some (.int .i64 x.2.1)
  | [], k, x, h => by simp at h
  | y :: l, 0, x, h => by simp at h; subst h; exact ⟨rfl, rfl⟩
  | y :: l, k + 1, x, h => by
    have := cP_at (l := l) (k := k) (x := x) (by simpa using h)
    rw [show (k + 1) * 2 = k * 2 + 1 + 1 by omega]
    exact this
abbrev OwnP (W : World) (B : Nat) (v : Value) (l : List En) : Prop := W.ownsRow B 109 2 v l.length (cP l)
theorem add_none0 (b off k : Nat) : (⟨b, off, none⟩ : Addr).add k = ⟨b, off + k, none⟩ := by unfold Addr.add; split <;> simp_all
theorem OwnP.ps {W : World} {B : Nat} {v : Value} {l : List En} (h : OwnP W B v l) : ∃ ao cap, v = .slice ao l.length cap ∧ Ps W ao l ∧ l.length ≤ cap ∧ (∀ b off, ao = some ⟨b, off, none⟩ → v.ownBlock = some b) := by
  rcases h.2 with ⟨rfl, hn⟩ | ⟨g, cap, cur, rfl, hg, hh, hle, hm, hs, ht⟩
  · have : l = [] := List.eq_nil_of_length_eq_zero hn
    subst this
    exact ⟨none, 0, rfl, fun k x hx => by simp at hx, Nat.le_refl _, fun b off e => by cases e⟩
  · refine ⟨_, _, rfl, fun k x hx => ⟨g, 0, rfl, ?_⟩, hle, fun b off e => by cases e; rfl⟩
    obtain ⟨e0, e1⟩ := cP_at hx
    have c0 := h.cells (g := g) rfl (k * 2) _ e0
    have c1 := h.cells (g := g) rfl (k * 2 + 1) _ e1
    rw [add_none0] at c0 c1
    exact ⟨c0, by rw [← c1, Nat.add_assoc]⟩
/-- The document's own table in memory: its list lies at or behind B. -/
structure RTab (B : Nat) (w : World) (r room : Nat) (v : Value) (L : List En) : Prop where
  blk : Bk w r 37 [.int .i64 (room : Int), v]
  own : OwnP w B v L
section
variable {B : Nat} {w w' : World} {r room : Nat} {v : Value} {L : List En}
theorem RTab.gr (h : RTab B w r room v L) (k : Gr w w') : RTab B w' r room v L := ⟨h.blk.gr k, own_keep h.own (fun g e => k.below.block _ (h.own.lt g e).2)⟩
theorem RTab.below (h : RTab B w r room v L) (k : Below w.heap.size w w') : RTab B w' r room v L := ⟨h.blk.mono k h.blk.lt, own_keep h.own (fun g e => k.block _ (h.own.lt g e).2)⟩
theorem RTab.chg {p : Nat → Prop} (h : RTab B w r room v L) (k : Chg p w w') (h1 : ¬ p r) (h2 : ∀ g, v.ownBlock = some g → ¬ p g) : RTab B w' r room v L :=
  ⟨h.blk.chg k h1, own_keep h.own (fun g e => k.block _ (h.own.lt g e).2 (h2 g e))⟩
theorem RTab.c0 (h : RTab B w r room v L) : w.cell? ⟨r, 0, none⟩ = some (.int .i64 (room : Int)) := h.blk.at 0
theorem RTab.c1 (h : RTab B w r room v L) : w.cell? ⟨r, 1, none⟩ = some v := h.blk.at 1
end
theorem firstp_any (ao : Option Addr) (n cap : Nat) (m : Int) (w : World) (hc : n ≤ cap) :
    Calls Tryd.prog 44 #[.slice ao n cap, .int .i64 m] w fun e w' => (∃ c', e = .returned (.slice ao (if 1 ≤ m ∧ m < n then m.toNat else n) c')) ∧ w' = w := by
  by_cases h1 : 0 < m
  · have d1 : decide (m > 0) = true := decide_eq_true h1
    by_cases h2 : m < n
    · have d2 : decide (m < (n : Int)) = true := decide_eq_true h2
      have e : (if 1 ≤ m ∧ m < n then m.toNat else n) = m.toNat := if_pos ⟨by omega, h2⟩
      rw [e]
      obtain ⟨k, rfl⟩ : ∃ k : Nat, m = k := ⟨m.toNat, by omega⟩
      have h3 : (k : Int) ≤ (cap : Int) := by omega
      have h4 : k ≤ cap := by omega
      clear e
      go_enter Tryd.func44, Tryd.ntmps44
      go_wp2
      go_ret
      exact ⟨⟨_, rfl⟩, rfl⟩
    · have d2 : decide (m < (n : Int)) = false := decide_eq_false h2
      have e : (if 1 ≤ m ∧ m < n then m.toNat else n) = n := if_neg (by omega)
      rw [e]
      clear e
      go_enter Tryd.func44, Tryd.ntmps44
      go_wp2
      go_ret
      exact ⟨⟨_, rfl⟩, rfl⟩
  · have d1 : decide (m > 0) = false := decide_eq_false h1
    have e : (if 1 ≤ m ∧ m < n then m.toNat else n) = n := if_neg (by omega)
    rw [e]
    clear e
    go_enter Tryd.func44, Tryd.ntmps44
    go_wp2
    go_ret
    exact ⟨⟨_, rfl⟩, rfl⟩
theorem same_pairs (a1 a2 : Option Addr) (c1 c2 : Nat) (l : List En) (w : World) (h1 : Ps w a1 l) (h2 : Ps w a2 l) (hl : l.length ≤ 1000000) :
    Calls Tryd.prog 12 #[.slice a1 l.length c1, .slice a2 l.length c2] w fun e w' => e = .returned (.bool true) ∧ Gr w w' := by
  have H1 := hid0 h1
  have H2 := hid0 h2
  clear h1 h2
  generalize hn : l.length = n at *
  have HN := hid0 hn
  have hnI : (n : Int) < 9223372036854775807 := by omega
  clear hn hl
  go_enter Tryd.func12, Tryd.ntmps12
  go_wp2
  go_loopg [5] n (fun kx s5 wr => ∃ i : Nat, s5 = .int .i64 (i : Int) ∧ i ≤ n ∧ kx = n - i ∧ Hid (Gr w wr))
  case atStart => exact ⟨0, rfl, Nat.zero_le _, rfl, Gr.refl _⟩
  case round =>
    obtain ⟨i, rfl, hi, rfl, G⟩ := hrel
    by_cases hlt : i < n
    · have hlt' : (i : Int) < (n : Int) := by omega
      obtain ⟨x, hx⟩ : ∃ x, l[i]? = some x := ⟨_, List.getElem?_eq_getElem (by rw [HN.out]; exact hlt)⟩
      obtain ⟨b1, o1, rfl, e1, e1'⟩ := H1.out i x hx
      obtain ⟨b2, o2, rfl, e2, e2'⟩ := H2.out i x hx
      have f1 := fun m => below_cell e1 ((G.out.drewN m).below)
      have f2 := fun m => below_cell e2 ((G.out.drewN m).below)
      have f1' := fun m => below_cell e1' ((G.out.drewN m).below)
      have f2' := fun m => below_cell e2' ((G.out.drewN m).below)
      have G2 := hid0 (fun m => G.out.drewN m)
      have hNE := run_neR x.1 x.2.1
      clear e1 e2 e1' e2' hx G
      go_upto_region 6 with fail
      go_quiet (fail)
      go_wp2
      go_roundg (n - (i + 1))
      case measure => omega
      case rel => exact ⟨i + 1, by simp, by omega, rfl, G2.out _⟩
    · have hge : ¬ (i : Int) < (n : Int) := by omega
      go_wp2
      go_ret
      exact ⟨rfl, G.out⟩
section
variable {B : Nat} {w : World} {r room : Nat} {v : Value} {L : List En}
def AtR (L : List En) (id : Int) (w : World) (e : Ending) (w' : World) : Prop := ∃ i, Cut L id i ∧ e = .returned (.tuple #[.int .i64 (i : Int), .bool (there L id i)]) ∧ Gr w w'
set_option maxHeartbeats 1000000 in
theorem at_any (h : RTab B w r room v L) (hA : Asc L) (hl : L.length ≤ 65536) (id : Int) : Calls Tryd.prog 68 #[pT r, .int .u32 id] w (AtR L id w) := by
  have c1 := h.c1
  obtain ⟨ao, cap, rfl, hP, hle, _⟩ := h.own.ps
  have P := hid0 hP
  have A := hid0 hA
  have hrl := h.blk.lt
  clear h hP hA hle
  generalize hn : L.length = n at *
  have HN := hid0 hn
  have hnI : (n : Int) < 9223372036854775807 := by omega
  clear hn
  go_enter Tryd.func68, Tryd.ntmps68
  go_wp2
  go_loopg [6] n (fun kx s6 wr => ∃ i : Nat, s6 = .int .i64 (i : Int) ∧ i ≤ n ∧ kx = n - i ∧ wr = w ∧ Hid (∀ (t : Nat) (y : En), L[t]? = some y → t < i → y.1 < id))
  case atStart => exact ⟨0, rfl, Nat.zero_le _, rfl, rfl, fun t y _ h => absurd h (Nat.not_lt_zero _)⟩
  case round =>
    obtain ⟨i, rfl, hi, rfl, rfl, I⟩ := hrel
    by_cases hlt : i < n
    · have hlt' : (i : Int) < (n : Int) := by omega
      obtain ⟨x, hx⟩ : ∃ x, L[i]? = some x := ⟨_, List.getElem?_eq_getElem (by rw [HN.out]; exact hlt)⟩
      obtain ⟨b1, o1, rfl, e0, e1⟩ := P.out i x hx
      have HX := hid0 hx
      clear hx e1
      by_cases hxl : x.1 < id
      · have I2 : Hid (∀ (t : Nat) (y : En), L[t]? = some y → t < i + 1 → y.1 < id) := fun t y hy ht => by
          rcases Nat.lt_or_ge t i with h | h
          · exact I.out t y hy h
          · obtain rfl : t = i := by omega
            have := HX.out
            rw [hy] at this
            cases this
            exact hxl
        go_wp2
        go_roundg (n - (i + 1))
        case measure => omega
        case rel => exact ⟨i + 1, by simp, by omega, rfl, rfl, I2⟩
      · have CT : Hid (Cut L id i) := cut_of (by rw [HN.out]; exact hi) I.out (fun t y hy ht => by
          rcases Nat.lt_or_ge i t with h | h
          · have := A.out.lt HX.out hy h; omega
          · obtain rfl : t = i := by omega
            have := HX.out
            rw [hy] at this
            cases this
            omega)
        have f0 := fun m => below_cell e0 ((Gr.refl wr).drewN m).below
        have k1 := fun m => below_cell c1 ((Gr.refl wr).drewN m).below
        have TH : Hid (there L id i = decide (x.1 = id)) := by simp [Hid, there, HX.out]
        have DE : (x.1 == id) = decide (x.1 = id) := by rfl
        have G2 := hid0 (fun m => (Gr.refl wr).drewN m)
        go_upto_region 4 with fail
        go_quiet (fail)
        go_wp2
        go_ret2
        exact ⟨i, CT.out, by rw [TH.out]; rfl, G2.out _⟩
    · have hge : ¬ (i : Int) < (n : Int) := by omega
      have CT : Hid (Cut L id i) := cut_of (by rw [HN.out]; exact hi) I.out (fun t y hy ht => by
        have := (List.getElem?_eq_some_iff.1 hy).1
        have := HN.out
        omega)
      have TH : Hid (there L id i = false) := by simp [Hid, there, List.getElem?_eq_none (show L.length ≤ i by rw [HN.out]; omega)]
      have k1 := fun m => below_cell c1 ((Gr.refl wr).drewN m).below
      have G2 := hid0 (fun m => (Gr.refl wr).drewN m)
      go_upto_region 4 with fail
      go_quiet (fail)
      go_wp2
      go_ret2
      exact ⟨i, CT.out, by rw [TH.out]; rfl, G2.out _⟩
def RGetR (L : List En) (id : Int) (w : World) (e : Ending) (w' : World) : Prop := ∃ i, Cut L id i ∧ (there L id i = true ∧ e = .returned (.tuple #[.int .i64 (valAt L i), .bool true]) ∨ there L id i = false ∧ e = .returned (.tuple #[.int .i64 0, .bool false])) ∧ Gr w w'
theorem rget_any (h : RTab B w r room v L) (hA : Asc L) (hl : L.length ≤ 65536) (id : Int) : Calls Tryd.prog 41 #[pT r, .int .u32 id] w (RGetR L id w) := by
  have AT := hid0 (at_any h hA hl id)
  have H := hid0 h
  clear h
  go_enter Tryd.func41, Tryd.ntmps41
  go_wp2_with fail
  refine AT.out.mono ?_
  rintro e w1 ⟨i, hc, rfl, g1⟩
  have HC := hid0 hc
  have G1 := hid0 g1
  have c1 := (H.out.gr g1).c1
  obtain ⟨ao, cap, rfl, hP, hle, _⟩ := (H.out.gr g1).own.ps
  clear hc g1 AT H
  cases hth : there L id i with
  | false =>
    go_wp2
    go_ret2
    exact ⟨i, HC.out, .inr ⟨hth, rfl⟩, G1.out⟩
  | true =>
    obtain ⟨x, hx, ex⟩ := there_yes hth
    obtain ⟨b1, o1, rfl, e0, e1⟩ := hP i x hx
    have hi := (List.getElem?_eq_some_iff.1 hx).1
    have hi' : (i : Int) < (L.length : Int) := by omega
    have ev : Hid (valAt L i = x.2.1) := by simp [Hid, valAt, List.getD, hx]
    clear hP hx
    go_wp2
    go_ret2
    exact ⟨i, HC.out, .inl ⟨hth, by rw [ev.out]; rfl⟩, G1.out⟩
def NoYet (L : List En) (id : Int) (all : Bool) (i : Nat) : Prop := ∀ (t : Nat) (y : En), L[t]? = some y → t < i → all = false ∧ ¬ id < y.1
/-- Goes there what is above (or all)? -/
def RNextR (L : List En) (id : Int) (all : Bool) (w : World) (e : Ending) (w' : World) : Prop :=
  ((∃ (i : Nat) (x : En), L[i]? = some x ∧ (all = true ∨ id < x.1) ∧ (∀ (t : Nat) (y : En), L[t]? = some y → t < i → all = false ∧ ¬ id < y.1) ∧ e = .returned (.tuple #[.int .u32 x.1, .int .i64 x.2.1, .bool true])) ∨
   ((∀ (t : Nat) (y : En), L[t]? = some y → all = false ∧ ¬ id < y.1) ∧ e = .returned (.tuple #[.int .u32 0, .int .i64 0, .bool false]))) ∧ Gr w w'
set_option maxHeartbeats 1000000 in
theorem rnext_any (h : RTab B w r room v L) (hl : L.length ≤ 65536) (id : Int) (all : Bool) : Calls Tryd.prog 43 #[pT r, .int .u32 id, .bool all] w (RNextR L id all w) := by
  have c1 := h.c1
  obtain ⟨ao, cap, rfl, hP, hle, _⟩ := h.own.ps
  have P := hid0 hP
  clear h hP hle
  generalize hn : L.length = n at *
  have HN := hid0 hn
  have hnI : (n : Int) < 9223372036854775807 := by omega
  clear hn
  go_enter Tryd.func43, Tryd.ntmps43
  go_wp2
  go_loopg [9] n (fun kx s9 wr => ∃ i : Nat, s9 = .int .i64 (i : Int) ∧ i ≤ n ∧ kx = n - i ∧ wr = w ∧ Hid (NoYet L id all i))
  case atStart => exact ⟨0, rfl, Nat.zero_le _, rfl, rfl, fun t y _ h => absurd h (Nat.not_lt_zero _)⟩
  case round =>
    obtain ⟨i, rfl, hi, rfl, rfl, I⟩ := hrel
    by_cases hlt : i < n
    · have hlt' : (i : Int) < (n : Int) := by omega
      obtain ⟨x, hx⟩ : ∃ x, L[i]? = some x := ⟨_, List.getElem?_eq_getElem (by rw [HN.out]; exact hlt)⟩
      obtain ⟨b1, o1, rfl, e0, e1⟩ := P.out i x hx
      have HX := hid0 hx
      clear hx
      have f0 := fun m => below_cell e0 ((Gr.refl wr).drewN m).below
      have f1 := fun m => below_cell e1 ((Gr.refl wr).drewN m).below
      have k1 := fun m => below_cell c1 ((Gr.refl wr).drewN m).below
      have G2 := hid0 (fun m => (Gr.refl wr).drewN m)
      cases all with
      | true =>
        go_upto_region 5 with fail
        go_quiet (fail)
        go_wp2
        refine bodyPost_ret (v := .tuple #[.int .u32 x.1, .int .i64 x.2.1, .bool true]) (by simp [results, Tryd.results43, go_sem]) rfl ?_
        exact ⟨.inl ⟨i, x, HX.out, .inl rfl, I.out, rfl⟩, G2.out _⟩
      | false =>
        by_cases hxl : id < x.1
        · have d1 : decide (x.1 > id) = true := decide_eq_true hxl
          go_upto_region 5 with fail
          go_quiet (fail)
          go_wp2
          refine bodyPost_ret (v := .tuple #[.int .u32 x.1, .int .i64 x.2.1, .bool true]) (by simp [results, Tryd.results43, go_sem]) rfl ?_
          exact ⟨.inl ⟨i, x, HX.out, .inr hxl, I.out, rfl⟩, G2.out _⟩
        · have d1 : decide (x.1 > id) = false := decide_eq_false hxl
          have I2 : Hid (NoYet L id false (i + 1)) := fun t y hy ht => by
            rcases Nat.lt_or_ge t i with h | h
            · exact I.out t y hy h
            · obtain rfl : t = i := by omega
              have := HX.out
              rw [hy] at this
              cases this
              exact ⟨rfl, hxl⟩
          go_wp2
          go_roundg (n - (i + 1))
          case measure => omega
          case rel => exact ⟨i + 1, by simp, by omega, rfl, rfl, I2⟩
    · have hge : ¬ (i : Int) < (n : Int) := by omega
      have I2 : Hid (NoYet L id all L.length) := fun t y hy _ => I.out t y hy (by
        have := (List.getElem?_eq_some_iff.1 hy).1
        have := HN.out
        omega)
      go_wp2
      refine bodyPost_ret (v := .tuple #[.int .u32 0, .int .i64 0, .bool false]) (by simp [results, Tryd.results43, go_sem]) rfl ?_
      exact ⟨.inr ⟨fun t y hy => I2.out t y hy (List.getElem?_eq_some_iff.1 hy).1, rfl⟩, Gr.refl _⟩
end
end Go.Proofs.YtjnjpjpgokdciaaDoor
