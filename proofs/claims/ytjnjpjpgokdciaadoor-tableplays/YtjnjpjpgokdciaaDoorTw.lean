/- TableWalks: what its table, its two lists and its arguments are; Put, Del, Next, in in the walk's words. -/
import Derived.Test.YtjnjpjpgokdciaaDoorTp
import Derived.Test.YtjnjpjpgokdciaaDoorLv
import Derived.Maps.AppendAt
set_option linter.unusedSimpArgs false
set_option linter.unusedVariables false
namespace Go.Proofs.YtjnjpjpgokdciaaDoor
open Go.RowKit Go.Sort Go.Shelf Go.Lib

/-- Numbers that a slice reads. -/
def Us (w : World) (ao : Option Addr) (l : List Int) : Prop := ∀ k x, l[k]? = some x → ∃ b off, ao = some ⟨b, off, none⟩ ∧ w.cell? ⟨b, off + k, none⟩ = some (.int .u32 x)
theorem Us.below {w w' : World} {ao : Option Addr} {l : List Int} (h : Us w ao l) (g : Below w.heap.size w w') : Us w' ao l := fun k x hx => by
  obtain ⟨b, off, e, h0⟩ := h k x hx
  exact ⟨b, off, e, below_cell h0 g⟩
/-- The changes that a slice reads. -/
def Cs (w : World) (ao : Option Addr) (l : List Ch1) : Prop := ∀ k x, l[k]? = some x → ∃ b off, ao = some ⟨b, off, none⟩ ∧ w.cell? ⟨b, off + k * 2, none⟩ = some (.int .u32 x.1) ∧ w.cell? ⟨b, off + k * 2 + 1, none⟩ = some (.bool x.2)
theorem Cs.below {w w' : World} {ao : Option Addr} {l : List Ch1} (h : Cs w ao l) (g : Below w.heap.size w w') : Cs w' ao l := fun k x hx => by
  obtain ⟨b, off, e, h0, h1⟩ := h k x hx
  exact ⟨b, off, e, below_cell h0 g, below_cell h1 g⟩
/-- A list of changes where it lies: its address, its room, what it holds. -/
abbrev Cl := Option Addr × Nat × List Ch1
def Css (w : World) (ao : Option Addr) (l : List Cl) : Prop := ∀ k x, l[k]? = some x → (∃ b off, ao = some ⟨b, off, none⟩ ∧ w.cell? ⟨b, off + k, none⟩ = some (.slice x.1 x.2.2.length x.2.1)) ∧ Cs w x.1 x.2.2
theorem Css.below {w w' : World} {ao : Option Addr} {l : List Cl} (h : Css w ao l) (g : Below w.heap.size w w') : Css w' ao l := fun k x hx => by
  obtain ⟨⟨b, off, e, h0⟩, h1⟩ := h k x hx
  exact ⟨⟨b, off, e, below_cell h0 g⟩, h1.below g⟩

theorem u_info : (Tryd.prog.info? 39).map (fun i => (i.zero, i.size, i.bytes)) = some (some (.int .u32 0), 1, 4) := by kernel_rfl
abbrev uV (x : Int) : Value := .int .u32 x
/-- A list of the call's own. -/
abbrev OwnU (W : World) (B : Nat) (v : Value) (l : List Int) : Prop := W.ownsRow B 39 1 v l.length (l.map uV)
theorem own_keep {W W' : World} {B : Nat} {e : TypeId} {size n : Nat} {v : Value} {xs : List Value} (h : W.ownsRow B e size v n xs) (k : ∀ g, v.ownBlock = some g → W'.heap[g]? = W.heap[g]?) : W'.ownsRow B e size v n xs := by
  obtain ⟨h1, h2⟩ := h
  refine ⟨h1, ?_⟩
  rcases h2 with h2 | ⟨g, cap, cur, rfl, hB, hb, h3⟩
  · exact .inl h2
  · exact .inr ⟨g, cap, cur, rfl, hB, (k g rfl).trans hb, h3⟩
theorem own_ty {W : World} {B : Nat} {e t : TypeId} {size n : Nat} {v : Value} {xs cur : List Value} (h : W.ownsRow B e size v n xs) {g : Nat} (hg : v.ownBlock = some g) (k : Bk W g t cur) : t = e := by
  obtain ⟨h1, h2⟩ := h
  rcases h2 with ⟨rfl, _⟩ | ⟨g', cap, c2, rfl, hB, hb, h3⟩
  · cases hg
  · cases hg
    unfold Bk at k
    rw [hb] at k
    simp only [Option.some.injEq, Obj.cells.injEq] at k
    exact k.2.1.symm
theorem OwnU.us {W : World} {B : Nat} {v : Value} {l : List Int} (h : OwnU W B v l) : ∃ ao cap, v = .slice ao l.length cap ∧ Us W ao l := by
  rcases h.2 with ⟨rfl, hn⟩ | ⟨g, cap, cur, rfl, hg, hh, hle, hm, hs, ht⟩
  · have : l = [] := List.eq_nil_of_length_eq_zero hn
    subst this
    exact ⟨none, 0, rfl, fun k x hx => by simp at hx⟩
  · refine ⟨_, _, rfl, fun k x hx => ⟨g, 0, rfl, ?_⟩⟩
    have hc := h.cells (g := g) rfl k (uV x) (by simp [hx])
    have e : (⟨g, 0, none⟩ : Addr).add k = ⟨g, 0 + k, none⟩ := by unfold Addr.add; split <;> simp_all
    rwa [e] at hc

/-! ### The calls -/
section
variable {B : Nat} {w : World} {t room : Nat} {v : Value} {L : List En}
def PutW (B : Nat) (t room : Nat) (v : Value) (L : List En) (id : Int) (w : World) (e : Ending) (w' : World) : Prop :=
  ∃ r v' L', e = .returned r ∧ TabIs B w' t room v' L' ∧ Chg (tP t v) w w' ∧ NewRow w v v' ∧ (∀ z, z ∈ nms L → z ∈ nms L') ∧ (∀ z, z ∈ nms L' → z = id ∨ z ∈ nms L) ∧ (L.length < room → id ∈ nms L') ∧ L'.length ≤ L.length + 1
theorem put_w (h : TabIs B w t room v L) (hB : B ≤ w.heap.size) (id n : Int) : Calls Tryd.prog 15 #[pT t, .int .u32 id, vV n] w (PutW B t room v L id w) := by
  refine (put_any h hB id n).mono ?_
  rintro e w' ⟨i, hc, hC, ⟨hth, rfl, nb, _, hT⟩ | ⟨hth, hf, rfl, hT⟩ | ⟨hth, hlt, rfl, nb, v', _, hT, hN⟩⟩
  · obtain ⟨x, hx, ex⟩ := there_yes hth
    refine ⟨_, v, _, rfl, hT, hC, fun g e => .inl e, fun z hz => (nms_set h.asc hx ex z).2 hz, fun z hz => .inr ((nms_set h.asc hx ex z).1 hz), fun _ => (nms_set h.asc hx ex id).2 ((there_nms h.asc hc).1 hth), by simp⟩
  · exact ⟨_, v, _, rfl, hT, hC, fun g e => .inl e, fun z hz => hz, fun z hz => .inr hz, fun hh => absurd hh (by omega), by omega⟩
  · exact ⟨_, v', _, rfl, hT, hC, hN, fun z hz => (nms_ins z).2 (.inr hz), fun z hz => (nms_ins z).1 hz, fun _ => (nms_ins id).2 (.inl rfl), by rw [ins_len L i _ hc.le]; omega⟩
def DelW (B : Nat) (t room : Nat) (v : Value) (L : List En) (id : Int) (w : World) (e : Ending) (w' : World) : Prop :=
  ∃ r v' L', e = .returned r ∧ TabIs B w' t room v' L' ∧ Chg (tP t v) w w' ∧ NewRow w v v' ∧ (∀ z, z ∈ nms L → z = id ∨ z ∈ nms L') ∧ (∀ z, z ∈ nms L' → z ∈ nms L)
theorem del_w (h : TabIs B w t room v L) (hB : B ≤ w.heap.size) (id : Int) : Calls Tryd.prog 18 #[pT t, .int .u32 id] w (DelW B t room v L id w) := by
  refine (del_any h hB id).mono ?_
  rintro e w' ⟨i, hc, hC, ⟨hth, rfl, v', hT, ev⟩ | ⟨hth, rfl, hT⟩⟩
  · obtain ⟨x, hx, ex⟩ := there_yes hth
    refine ⟨_, v', _, rfl, hT, hC, fun g e => .inl (ev ▸ e), fun z hz => ?_, fun z hz => ((nms_del h.asc hx z).1 hz).1⟩
    by_cases hzi : z = id
    · exact .inl hzi
    · exact .inr ((nms_del h.asc hx z).2 ⟨hz, by rw [ex]; exact hzi⟩)
  · exact ⟨_, v, _, rfl, hT, hC, fun g e => .inl e, fun z hz => .inr hz, fun z hz => hz⟩
def NextW (told : List Int) (L : List En) (w : World) (e : Ending) (w' : World) : Prop := ∃ id n ok, e = .returned (.tuple #[.int .u32 id, vV n, .bool ok]) ∧ NxI told L id ok ∧ Gr w w'
theorem next_w0 (h : TabIs B w t room v L) (id : Int) : Calls Tryd.prog 17 #[pT t, .int .u32 id, .bool true] w (NextW [] L w) := by
  refine (next_any h id true).mono ?_
  rintro e w' ⟨c, i, hc, hi, hcase, hG⟩
  simp only [if_true] at hi
  subst hi
  have key := fun e => next_first (L := L) h.asc (e := e) (c := c)
  rcases hcase with ⟨x, hx, rfl⟩ | ⟨hl, rfl⟩
  · exact ⟨x.1, x.2.1, true, rfl, (key _ hx).1 x rfl, hG⟩
  · exact ⟨0, 0, false, rfl, (key none (by rw [List.getElem?_eq_none (by omega)])).2 rfl, hG⟩
theorem next_w (h : TabIs B w t room v L) (told : List Int) (id : Int) (hr : (told ++ [id]).Pairwise (· < ·)) : Calls Tryd.prog 17 #[pT t, .int .u32 id, .bool false] w (NextW (told ++ [id]) L w) := by
  refine (next_any h id false).mono ?_
  rintro e w' ⟨c, i, hc, hi, hcase, hG⟩
  simp only [Bool.false_eq_true, if_false] at hi
  have key := next_after h.asc hr hc
  rw [← hi] at key
  rcases hcase with ⟨x, hx, rfl⟩ | ⟨hl, rfl⟩
  · exact ⟨x.1, x.2.1, true, rfl, key.1 x hx, hG⟩
  · exact ⟨0, 0, false, rfl, key.2 hl, hG⟩
end
/-- in. -/
theorem in_any (ao : Option Addr) (cap : Nat) (l : List Int) (x : Int) (w : World) (h : Us w ao l) (hl : l.length ≤ 4611686018427387904) :
    Calls Tryd.prog 19 #[.slice ao l.length cap, .int .u32 x] w fun e w' => e = .returned (.bool (decide (x ∈ l))) ∧ w' = w := by
  have U := hid0 h
  clear h
  generalize hn : l.length = n at *
  have HN := hid0 hn
  clear hn
  go_enter Tryd.func19, Tryd.ntmps19
  go_wp2
  go_loopg [5] n (fun kx s5 wr => ∃ i : Nat, s5 = .int .i64 (i : Int) ∧ i ≤ n ∧ kx = n - i ∧ wr = w ∧ Hid (∀ k y, l[k]? = some y → k < i → y ≠ x))
  case atStart => exact ⟨0, rfl, Nat.zero_le _, rfl, rfl, fun k y _ h => absurd h (Nat.not_lt_zero _)⟩
  case round =>
    obtain ⟨i, rfl, hi, rfl, rfl, A⟩ := hrel
    by_cases hlt : i < n
    · obtain ⟨y, hy⟩ : ∃ y, l[i]? = some y := ⟨_, List.getElem?_eq_getElem (by rw [HN.out]; exact hlt)⟩
      obtain ⟨b, off, rfl, c0⟩ := U.out i y hy
      have HY := hid0 hy
      have hlt' : (i : Int) < (n : Int) := by omega
      clear hy
      by_cases he : y = x
      · subst he
        have D : Hid (decide (y ∈ l) = true) := decide_eq_true (List.mem_of_getElem? HY.out)
        go_wp2
        go_ret
        exact ⟨by rw [D.out]; rfl, rfl⟩
      · have A2 : Hid (∀ k z, l[k]? = some z → k < i + 1 → z ≠ x) := fun k z hz hk => by
          rcases Nat.lt_or_ge k i with h | h
          · exact A.out k z hz h
          · obtain rfl : k = i := by omega
            have := HY.out
            rw [this] at hz
            cases hz
            exact he
        go_wp2
        go_roundg (n - (i + 1))
        case measure => omega
        case rel => exact ⟨i + 1, by simp, by omega, rfl, rfl, A2⟩
    · have hge : ¬ (i : Int) < (n : Int) := by omega
      have D : Hid (decide (x ∈ l) = false) := decide_eq_false (fun hm => by
        obtain ⟨k, hk⟩ := List.mem_iff_getElem?.1 hm
        have := (List.getElem?_eq_some_iff.1 hk).1
        have := HN.out
        exact A.out k x hk (by omega) rfl)
      go_wp2
      go_ret
      exact ⟨by rw [D.out]; rfl, rfl⟩
/-! ### What the walk keeps -/
structure TwW (w0 W : World) (t : Nat) (v : Value) (L : List En) (tv : Value) (told : List Int) (gv : Value) (gone : List Int) : Prop where
  bel : Below w0.heap.size w0 W
  tab : TabIs w0.heap.size W t 65536 v L
  told : OwnU W w0.heap.size tv told
  gone : OwnU W w0.heap.size gv gone
  ne : ∀ g, tv.ownBlock = some g → gv.ownBlock ≠ some g
section
variable {w0 W W' : World} {t : Nat} {v : Value} {L : List En} {tv : Value} {told : List Int} {gv : Value} {gone : List Int}
theorem TwW.size (h : TwW w0 W t v L tv told gv gone) : w0.heap.size ≤ W.heap.size := h.bel.size
theorem TwW.gr (h : TwW w0 W t v L tv told gv gone) (g : Gr W W') : TwW w0 W' t v L tv told gv gone :=
  ⟨h.bel.trans (g.below.mono h.size), h.tab.gr g, own_keep h.told (fun k hk => g.below.block _ (h.told.lt k hk).2), own_keep h.gone (fun k hk => g.below.block _ (h.gone.lt k hk).2), h.ne⟩
theorem own_not_tab {B room : Nat} {tv : Value} {told : List Int} (h : TabIs B W t room v L) (k : OwnU W B tv told) {g : Nat} (hg : tv.ownBlock = some g) : ¬ tP t v g ∧ ∀ x ∈ L, g ≠ x.2.2 := by
  refine ⟨fun e => ?_, fun x hx e => ?_⟩
  · rcases e with rfl | e
    · have := own_ty k hg h.blk; cases this
    · obtain ⟨_, _, cur, kc⟩ := h.sl.lt e
      have := own_ty k hg kc
      cases this
  · subst e
    have := own_ty k hg (h.ents x hx)
    cases this
theorem TwW.turn {v' : Value} {L' : List En} (h : TwW w0 W t v L tv told gv gone) (hT : TabIs w0.heap.size W' t 65536 v' L') (hC : Chg (tP t v) W W') : TwW w0 W' t v' L' tv told gv gone :=
  ⟨h.bel.trans (hC.below h.size (fun k e => by
      rcases e with rfl | e
      · exact h.tab.t0
      · exact (h.tab.sl.lt e).2.1)), hT,
    own_keep h.told (fun k hk => hC.block k (h.told.lt k hk).2 (own_not_tab h.tab h.told hk).1), own_keep h.gone (fun k hk => hC.block k (h.gone.lt k hk).2 (own_not_tab h.tab h.gone hk).1), h.ne⟩
theorem TwW.tell {tv' : Value} {x : Int} (h : TwW w0 W t v L tv told gv gone) (hg : W.grownBy W' tv.ownBlock) (ho : OwnU W' w0.heap.size tv' (told ++ [x])) (ha : tv'.ownBlock = tv.ownBlock ∨ ∃ k, tv'.ownBlock = some k ∧ W.heap.size ≤ k) : TwW w0 W' t v L tv' (told ++ [x]) gv gone := by
  have C := Chg.grownR hg
  refine ⟨h.bel.trans (C.below h.size (fun k e => (h.told.lt k e).1)), h.tab.chg C (fun e => (own_not_tab h.tab h.told e).1 (.inl rfl)) (fun g e1 e2 => (own_not_tab h.tab h.told e2).1 (.inr e1)) (fun y hy e => (own_not_tab h.tab h.told e).2 y hy rfl), ho,
    own_keep h.gone (fun k hk => C.block k (h.gone.lt k hk).2 (fun e => h.ne k e hk)), fun g e1 e2 => ?_⟩
  rcases ha with ha | ⟨k, ha, hk⟩
  · exact h.ne g (ha ▸ e1) e2
  · rw [ha] at e1
    cases e1
    have := (h.gone.lt _ e2).2
    omega
theorem TwW.went {gv' : Value} {x : Int} (h : TwW w0 W t v L tv told gv gone) (hg : W.grownBy W' gv.ownBlock) (ho : OwnU W' w0.heap.size gv' (gone ++ [x])) (ha : gv'.ownBlock = gv.ownBlock ∨ ∃ k, gv'.ownBlock = some k ∧ W.heap.size ≤ k) : TwW w0 W' t v L tv told gv' (gone ++ [x]) := by
  have C := Chg.grownR hg
  refine ⟨h.bel.trans (C.below h.size (fun k e => (h.gone.lt k e).1)), h.tab.chg C (fun e => (own_not_tab h.tab h.gone e).1 (.inl rfl)) (fun g e1 e2 => (own_not_tab h.tab h.gone e2).1 (.inr e1)) (fun y hy e => (own_not_tab h.tab h.gone e).2 y hy rfl),
    own_keep h.told (fun k hk => C.block k (h.told.lt k hk).2 (fun e => h.ne k hk e)), ho, fun g e1 e2 => ?_⟩
  rcases ha with ha | ⟨k, ha, hk⟩
  · exact h.ne g e1 (ha ▸ e2)
  · rw [ha] at e2
    cases e2
    have := (h.told.lt _ e1).2
    omega
end
end Go.Proofs.YtjnjpjpgokdciaaDoor
