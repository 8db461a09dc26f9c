/- TablePlays: two tables beside the document's own, and what is kept of them. -/
import Derived.Test.YtjnjpjpgokdciaaDoorNn
import Derived.Test.YtjnjpjpgokdciaaDoorYb
set_option linter.unusedSimpArgs false
set_option linter.unusedVariables false
namespace Go.Proofs.YtjnjpjpgokdciaaDoor
open Go.RowKit Go.Sort Go.Shelf

structure Sd where
  t : Nat
  r : Nat
  room : Nat
  v : Value
  vr : Value
  L : List En
def updS (f : Nat → Sd) (k : Nat) (x : Sd) : Nat → Sd := fun i => if i = k then x else f i
def cT (f : Nat → Sd) (k i : Nat) : Value := if i < k then pT (f i).t else .pointer none
def cR (f : Nat → Sd) (k i : Nat) : Value := if i < k then pT (f i).r else .pointer none
abbrev cTs (f : Nat → Sd) (k : Nat) : List Value := [cT f k 0, cT f k 1]
abbrev cRs (f : Nat → Sd) (k : Nat) : List Value := [cR f k 0, cR f k 1]
theorem cTs_set (f : Nat → Sd) (k : Nat) (x : Sd) (hk : k < 2) : (cTs f k).set k (pT x.t) = cTs (updS f k x) (k + 1) := by
  match k, hk with
  | 0, _ => simp [cT, updS]
  | 1, _ => simp [cT, updS]
theorem cRs_set (f : Nat → Sd) (k : Nat) (x : Sd) (hk : k < 2) : (cRs f k).set k (pT x.r) = cRs (updS f k x) (k + 1) := by
  match k, hk with
  | 0, _ => simp [cR, updS]
  | 1, _ => simp [cR, updS]
theorem cTs_at (f : Nat → Sd) (i : Nat) (hi : i < 2) : (cTs f 2)[i]? = some (pT (f i).t) := by
  match i, hi with
  | 0, _ => simp [cT]
  | 1, _ => simp [cT]
theorem cRs_at (f : Nat → Sd) (i : Nat) (hi : i < 2) : (cRs f 2)[i]? = some (pT (f i).r) := by
  match i, hi with
  | 0, _ => simp [cR]
  | 1, _ => simp [cR]
abbrev PrS (B : Nat) (w : World) (s : Sd) : Prop := Pr B w s.t s.r s.room s.v s.vr s.L
section
variable {B : Nat} {w w' : World} {s : Sd}
theorem own_bk {B e size n : Nat} {v : Value} {xs : List Value} (h : w.ownsRow B e size v n xs) {g : Nat} (hg : v.ownBlock = some g) : ∃ cur, Bk w g e cur := by
  obtain ⟨_, _, cur, hc⟩ := own_ltN h hg
  exact ⟨cur.toList, by unfold Bk; rw [hc]⟩
theorem Pr.chg {p : Nat → Prop} (h : PrS B w s) (c : Chg p w w') (h1 : ¬ p s.t) (h2 : ∀ g, s.v.ownBlock = some g → ¬ p g) (h3 : ∀ x ∈ s.L, ¬ p x.2.2) (h4 : ¬ p s.r) (h5 : ∀ g, s.vr.ownBlock = some g → ¬ p g) : PrS B w' s :=
  ⟨h.tab.chg c h1 h2 h3, h.ref.chg c h4 h5, h.r0⟩
/-- A block of another type is turned. -/
theorem Pr.other {y u : Nat} {m : List Value} (h : PrS B w s) (hy : Bk w y u m) (h1 : u ≠ 54) (h2 : u ≠ 97) (h3 : u ≠ 100) (h4 : u ≠ 37) (h5 : u ≠ 109) (i : Nat) (v : Value) : PrS B (w.setCell ⟨y, i, none⟩ v) s := by
  refine h.chg (Chg.set (p := fun k => k = y) w (a := ⟨y, i, none⟩) rfl v) (fun e => ?_) (fun g e1 e => ?_) (fun x hx e => ?_) (fun e => ?_) (fun g e1 e => ?_)
  · exact h1 (bk_ty hy (e ▸ h.tab.blk))
  · obtain ⟨_, _, cur, kc⟩ := h.tab.sl.lt e1
    exact h2 (bk_ty hy (e ▸ kc))
  · exact h3 (bk_ty hy (e ▸ h.tab.ents x hx))
  · exact h4 (bk_ty hy (e ▸ h.ref.blk))
  · obtain ⟨cur, kc⟩ := own_bk h.ref.own e1
    exact h5 (bk_ty hy (e ▸ kc))
/-- Another pair's turn. -/
theorem Pr.beside {s' : Sd} (h : PrS B w s) (k : PrS B w s') (c : Chg (qP s'.t s'.r s'.v s'.vr) w w') (n1 : s.t ≠ s'.t) (n2 : s.r ≠ s'.r) (n3 : ∀ g, s.v.ownBlock = some g → s'.v.ownBlock ≠ some g) (n4 : ∀ g, s.vr.ownBlock = some g → s'.vr.ownBlock ≠ some g) : PrS B w' s := by
  have ty : ∀ {y u : Nat} {m : List Value}, Bk w y u m → qP s'.t s'.r s'.v s'.vr y → (u = 54 ∧ y = s'.t) ∨ (u = 97 ∧ s'.v.ownBlock = some y) ∨ (u = 37 ∧ y = s'.r) ∨ (u = 109 ∧ s'.vr.ownBlock = some y) := fun {y u m} hy e => by
    rcases e with (e | e) | (e | e)
    · exact .inl ⟨bk_ty hy (e ▸ k.tab.blk), e⟩
    · obtain ⟨_, _, cur, kc⟩ := k.tab.sl.lt e
      exact .inr (.inl ⟨bk_ty hy kc, e⟩)
    · exact .inr (.inr (.inl ⟨bk_ty hy (e ▸ k.ref.blk), e⟩))
    · obtain ⟨cur, kc⟩ := own_bk k.ref.own e
      exact .inr (.inr (.inr ⟨bk_ty hy kc, e⟩))
  refine h.chg c (fun e => ?_) (fun g e1 e => ?_) (fun x hx e => ?_) (fun e => ?_) (fun g e1 e => ?_)
  · rcases ty h.tab.blk e with ⟨_, h⟩ | ⟨h, _⟩ | ⟨h, _⟩ | ⟨h, _⟩
    · exact n1 h
    all_goals cases h
  · obtain ⟨_, _, cur, kc⟩ := h.tab.sl.lt e1
    rcases ty kc e with ⟨h, _⟩ | ⟨_, h⟩ | ⟨h, _⟩ | ⟨h, _⟩
    · cases h
    · exact n3 g e1 h
    all_goals cases h
  · rcases ty (h.tab.ents x hx) e with ⟨h, _⟩ | ⟨h, _⟩ | ⟨h, _⟩ | ⟨h, _⟩
    all_goals cases h
  · rcases ty h.ref.blk e with ⟨h, _⟩ | ⟨h, _⟩ | ⟨_, h⟩ | ⟨h, _⟩
    · cases h
    · cases h
    · exact n2 h
    · cases h
  · obtain ⟨cur, kc⟩ := own_bk h.ref.own e1
    rcases ty kc e with ⟨h, _⟩ | ⟨h, _⟩ | ⟨h, _⟩ | ⟨_, h⟩
    · cases h
    · cases h
    · cases h
    · exact n4 g e1 h
end
/-- The first k of two pairs, in their arrays' blocks. -/
structure Ty (B : Nat) (w : World) (x5 x6 k : Nat) (f : Nat → Sd) : Prop where
  k5 : Bk w x5 25 (cTs f k)
  k6 : Bk w x6 27 (cRs f k)
  pr : ∀ i, i < k → PrS B w (f i)
  ne : ∀ i j, i < k → j < k → i ≠ j → (f i).t ≠ (f j).t ∧ (f i).r ≠ (f j).r ∧ (∀ g, (f i).v.ownBlock = some g → (f j).v.ownBlock ≠ some g) ∧ (∀ g, (f i).vr.ownBlock = some g → (f j).vr.ownBlock ≠ some g)
section
variable {B : Nat} {w w' : World} {x5 x6 k : Nat} {f : Nat → Sd}
theorem Ty.gr (h : Ty B w x5 x6 k f) (c : Gr w w') : Ty B w' x5 x6 k f := ⟨h.k5.gr c, h.k6.gr c, fun i hi => (h.pr i hi).gr c, h.ne⟩
theorem Ty.below (h : Ty B w x5 x6 k f) (c : Below w.heap.size w w') : Ty B w' x5 x6 k f := ⟨h.k5.mono c h.k5.lt, h.k6.mono c h.k6.lt, fun i hi => (h.pr i hi).below c, h.ne⟩
theorem TabIs.base {B' : Nat} {t room : Nat} {v : Value} {L : List En} (h : TabIs B w t room v L) (hb : B' ≤ B) : TabIs B' w t room v L :=
  ⟨h.blk, h.sl.imp id (fun ⟨g, cp, e, h1, h2⟩ => ⟨g, cp, e, Nat.le_trans hb h1, h2⟩), h.ents, h.asc, h.len, h.most, Nat.le_trans hb h.t0⟩
/-- A pair more. -/
theorem Ty.more {w1 : World} {t' room : Nat} (h : Ty B w x5 x6 k f) (hk : k < 2) (hB : B ≤ w.heap.size) (c1 : Gr w w1) (n1 : TabIs w.heap.size w1 t' room (.slice none 0 0) []) :
    Ty B (((w1.setCell ⟨x5, k, none⟩ (pT t')).alloc (.cells #[.int .i64 (room : Int), .slice none 0 0] 37)).setCell ⟨x6, k, none⟩ (pT w1.heap.size)) x5 x6 (k + 1) (updS f k ⟨t', w1.heap.size, room, .slice none 0 0, .slice none 0 0, []⟩) := by
  have hs2 : (w1.setCell ⟨x5, k, none⟩ (pT t')).heap.size = w1.heap.size := by simp
  have hs1 := c1.size
  have h1 := h.gr c1
  have c3 := (Gr.refl (w1.setCell ⟨x5, k, none⟩ (pT t'))).alloc (.cells #[.int .i64 (room : Int), .slice none 0 0] 37)
  have kr := Bk.new (w1.setCell ⟨x5, k, none⟩ (pT t')) 37 [.int .i64 (room : Int), .slice none 0 0]
  rw [hs2] at kr
  have k52 := (h1.k5.set k (pT t')).gr c3
  rw [cTs_set f k ⟨t', w1.heap.size, room, .slice none 0 0, .slice none 0 0, []⟩ hk] at k52
  have k62 := (h1.k6.other (a := ⟨x5, k, none⟩) (bk_ne h1.k6 h1.k5 (by decide)) (pT t')).gr c3
  have pr2 : ∀ i, i < k → PrS B ((w1.setCell ⟨x5, k, none⟩ (pT t')).alloc (.cells #[.int .i64 (room : Int), .slice none 0 0] 37)) (f i) := fun i hi =>
    Pr.gr ((h1.pr i hi).other h1.k5 (by decide) (by decide) (by decide) (by decide) (by decide) k (pT t')) c3
  have nt : TabIs B ((w1.setCell ⟨x5, k, none⟩ (pT t')).alloc (.cells #[.int .i64 (room : Int), .slice none 0 0] 37)) t' room (.slice none 0 0) [] :=
    TabIs.gr (TabIs.base ⟨n1.blk.other (a := ⟨x5, k, none⟩) (bk_ne n1.blk h1.k5 (by decide)) _, .inl ⟨rfl, rfl⟩, fun x hx => (by simp at hx), n1.asc, n1.len, n1.most, n1.t0⟩ hB) c3
  have np : PrS B ((w1.setCell ⟨x5, k, none⟩ (pT t')).alloc (.cells #[.int .i64 (room : Int), .slice none 0 0] 37)) ⟨t', w1.heap.size, room, .slice none 0 0, .slice none 0 0, []⟩ :=
    ⟨nt, ⟨kr, World.ownsRow_nil _ _ _ _⟩, by show B ≤ w1.heap.size; omega⟩
  refine ⟨k52.other (a := ⟨x6, k, none⟩) (bk_ne k52 k62 (by decide)) _, ?_, fun i hi => ?_, fun i j hi hj hij => ?_⟩
  · rw [← cRs_set f k ⟨t', w1.heap.size, room, .slice none 0 0, .slice none 0 0, []⟩ hk]; exact k62.set k _
  · by_cases e : i = k
    · subst e
      simp only [updS, if_true]
      exact np.other k62 (by decide) (by decide) (by decide) (by decide) (by decide) i _
    · simp only [updS, if_neg e]
      exact (pr2 i (by omega)).other k62 (by decide) (by decide) (by decide) (by decide) (by decide) k _
  · have lt : ∀ i, i < k → (f i).t < w.heap.size ∧ (f i).r < w.heap.size := fun i hi => ⟨(h.pr i hi).tab.blk.lt, (h.pr i hi).ref.blk.lt⟩
    have ht := n1.t0
    by_cases e : i = k
    · subst e
      have hj2 : j ≠ i := fun e => hij e.symm
      have := lt j (by omega)
      simp only [updS, if_true, if_neg hj2]
      exact ⟨by omega, by omega, fun g e => (by cases e), fun g e => (by cases e)⟩
    · by_cases e2 : j = k
      · subst e2
        have := lt i (by omega)
        simp only [updS, if_true, if_neg e]
        exact ⟨by omega, by omega, fun g _ e => (by cases e), fun g _ e => (by cases e)⟩
      · simp only [updS, if_neg e, if_neg e2]
        exact h.ne i j (by omega) (by omega) hij
end
/-- What is kept: All's captured list, the entries that there were, the document's copy. -/
structure Ke where
  bt : Nat
  v : Value
  L : List En
  u : Value
def kC (k : Ke) : List Value := [.func (.func 39) #[] #[pT k.bt], k.u]
/-- All that the law holds. -/
structure Hold (w0 w : World) (x5 x6 : Nat) (f : Nat → Sd) (kv : Value) (ks : List Ke) : Prop where
  bel : Below w0.heap.size w0 w
  ty : Ty w0.heap.size w x5 x6 2 f
  own : w.ownsRow w0.heap.size 47 2 kv ks.length (ks.flatMap kC)
  ent : ∀ k ∈ ks, TKept w k.bt k.v k.L ∧ OwnP w w0.heap.size k.u k.L
  apart : ∀ k ∈ ks, ∀ i, i < 2 → (∀ g, k.v.ownBlock = some g → (f i).v.ownBlock ≠ some g) ∧ (∀ g, k.u.ownBlock = some g → (f i).vr.ownBlock ≠ some g)
section
variable {w0 w w' : World} {x5 x6 : Nat} {f : Nat → Sd} {kv : Value} {ks : List Ke}
theorem Hold.below (h : Hold w0 w x5 x6 f kv ks) (c : Below w.heap.size w w') : Hold w0 w' x5 x6 f kv ks :=
  ⟨h.bel.trans (c.mono h.bel.size), h.ty.below c, own_below h.own c, fun k hk => ⟨(h.ent k hk).1.below c, own_below (h.ent k hk).2 c⟩, h.apart⟩
theorem Hold.gr (h : Hold w0 w x5 x6 f kv ks) (c : Gr w w') : Hold w0 w' x5 x6 f kv ks := h.below c.below
/-- A pair's turn. -/
theorem Hold.turn {i : Nat} {v' vr' : Value} {L' : List En} (h : Hold w0 w x5 x6 f kv ks) (hi : i < 2) (n : Pr w0.heap.size w' (f i).t (f i).r (f i).room v' vr' L') (c : Chg (qP (f i).t (f i).r (f i).v (f i).vr) w w') (N1 : NewRow w (f i).v v') (N2 : NewRow w (f i).vr vr') :
    Hold w0 w' x5 x6 (updS f i ⟨(f i).t, (f i).r, (f i).room, v', vr', L'⟩) kv ks := by
  have k := h.ty.pr i hi
  have ty : ∀ {y u : Nat} {m : List Value}, Bk w y u m → qP (f i).t (f i).r (f i).v (f i).vr y → (u = 54) ∨ (u = 97 ∧ (f i).v.ownBlock = some y) ∨ (u = 37) ∨ (u = 109 ∧ (f i).vr.ownBlock = some y) := fun {y u m} hy e => by
    rcases e with (e | e) | (e | e)
    · exact .inl (bk_ty hy (e ▸ k.tab.blk))
    · obtain ⟨_, _, cur, kc⟩ := k.tab.sl.lt e
      exact .inr (.inl ⟨bk_ty hy kc, e⟩)
    · exact .inr (.inr (.inl (bk_ty hy (e ▸ k.ref.blk))))
    · obtain ⟨cur, kc⟩ := own_bk k.ref.own e
      exact .inr (.inr (.inr ⟨bk_ty hy kc, e⟩))
  have away : ∀ {y u : Nat} {m : List Value}, Bk w y u m → u ≠ 54 → u ≠ 97 → u ≠ 37 → u ≠ 109 → Bk w' y u m := fun {y u m} hy h1 h2 h3 h4 => hy.chg c (fun e => by
    rcases ty hy e with e | ⟨e, _⟩ | e | ⟨e, _⟩
    · exact h1 e
    · exact h2 e
    · exact h3 e
    · exact h4 e)
  have cts : ∀ m, cTs (updS f i ⟨(f i).t, (f i).r, (f i).room, v', vr', L'⟩) m = cTs f m := fun m => by
    have e : ∀ j, (updS f i ⟨(f i).t, (f i).r, (f i).room, v', vr', L'⟩ j).t = (f j).t := fun j => by unfold updS; split <;> simp_all
    simp only [cTs, cT, e]
  have crs : ∀ m, cRs (updS f i ⟨(f i).t, (f i).r, (f i).room, v', vr', L'⟩) m = cRs f m := fun m => by
    have e : ∀ j, (updS f i ⟨(f i).t, (f i).r, (f i).room, v', vr', L'⟩ j).r = (f j).r := fun j => by unfold updS; split <;> simp_all
    simp only [cRs, cR, e]
  have hlo : ∀ g, qP (f i).t (f i).r (f i).v (f i).vr g → w0.heap.size ≤ g := fun g e => by
    rcases e with (e | e) | (e | e)
    · rw [e]; exact k.tab.t0
    · exact (k.tab.sl.lt e).2.1
    · rw [e]; exact k.r0
    · exact (k.ref.own.lt g e).1
  refine ⟨h.bel.trans (c.below h.bel.size hlo), ⟨by rw [cts]; exact away h.ty.k5 (by decide) (by decide) (by decide) (by decide), by rw [crs]; exact away h.ty.k6 (by decide) (by decide) (by decide) (by decide), fun j hj => ?_, fun a b ha hb hab => ?_⟩, own_chg h.own c (fun g cur hg e => ?_), fun κ hκ => ⟨?_, ?_⟩, fun κ hκ j hj => ?_⟩
  · by_cases e : j = i
    · subst e
      simp only [updS, if_true]
      exact n
    · simp only [updS, if_neg e]
      obtain ⟨q1, q2, q3, q4⟩ := h.ty.ne j i hj hi e
      exact (h.ty.pr j hj).beside k c q1 q2 q3 q4
  · have old : ∀ j, j < 2 → (∀ g, (f j).v.ownBlock = some g → g < w.heap.size) ∧ (∀ g, (f j).vr.ownBlock = some g → g < w.heap.size) := fun j hj => ⟨fun g e => ((h.ty.pr j hj).tab.sl.lt e).1, fun g e => ((h.ty.pr j hj).ref.own.lt g e).2⟩
    by_cases e : a = i
    · subst e
      have hj2 : b ≠ a := fun e => hab e.symm
      obtain ⟨q1, q2, q3, q4⟩ := h.ty.ne a b ha hb hab
      simp only [updS, if_true, if_neg hj2]
      refine ⟨q1, q2, fun g e1 e2 => ?_, fun g e1 e2 => ?_⟩
      · rcases N1 g e1 with h3 | h3
        · exact q3 g h3 e2
        · have := (old b hb).1 g e2; omega
      · rcases N2 g e1 with h3 | h3
        · exact q4 g h3 e2
        · have := (old b hb).2 g e2; omega
    · by_cases e2 : b = i
      · subst e2
        obtain ⟨q1, q2, q3, q4⟩ := h.ty.ne a b ha hb hab
        simp only [updS, if_true, if_neg e]
        refine ⟨q1, q2, fun g e1 e2 => ?_, fun g e1 e2 => ?_⟩
        · rcases N1 g e2 with h3 | h3
          · exact q3 g e1 h3
          · have := (old a ha).1 g e1; omega
        · rcases N2 g e2 with h3 | h3
          · exact q4 g e1 h3
          · have := (old a ha).2 g e1; omega
      · simp only [updS, if_neg e, if_neg e2]
        exact h.ty.ne a b ha hb hab
  · have kb : Bk w g 47 cur.toList := by unfold Bk; rw [hg]
    rcases ty kb e with e | ⟨e, _⟩ | e | ⟨e, _⟩ <;> cases e
  · obtain ⟨hK, hO⟩ := h.ent κ hκ
    refine hK.kp fun g hg => c.block g (hK.lt hg) (fun e => ?_)
    rcases hg with rfl | hg | ⟨x, hx, rfl⟩
    · rcases ty hK.cap e with e | ⟨e, _⟩ | e | ⟨e, _⟩ <;> cases e
    · obtain ⟨_, _, cur, kc⟩ := hK.sl.lt hg
      rcases ty kc e with e | ⟨_, e⟩ | e | ⟨e, _⟩
      · cases e
      · exact (h.apart κ hκ i hi).1 g hg e
      · cases e
      · cases e
    · rcases ty (hK.ents x hx) e with e | ⟨e, _⟩ | e | ⟨e, _⟩ <;> cases e
  · obtain ⟨hK, hO⟩ := h.ent κ hκ
    refine own_keep hO fun g hg => c.block g (hO.lt g hg).2 (fun e => ?_)
    obtain ⟨cur, kc⟩ := own_bk hO hg
    rcases ty kc e with e | ⟨e, _⟩ | e | ⟨_, e⟩
    · cases e
    · cases e
    · cases e
    · exact (h.apart κ hκ i hi).2 g hg e
  · obtain ⟨hK, hO⟩ := h.ent κ hκ
    by_cases e : j = i
    · subst e
      simp only [updS, if_true]
      refine ⟨fun g e1 e2 => ?_, fun g e1 e2 => ?_⟩
      · rcases N1 g e2 with h3 | h3
        · exact (h.apart κ hκ j hj).1 g e1 h3
        · have := (hK.sl.lt e1).1; omega
      · rcases N2 g e2 with h3 | h3
        · exact (h.apart κ hκ j hj).2 g e1 h3
        · have := (hO.lt g e1).2; omega
    · simp only [updS, if_neg e]
      exact h.apart κ hκ j hj
/-- What All and Copy made of a pair is kept. -/
theorem Hold.keep {i : Nat} {w1 w2 w3 : World} {bt : Nat} {v u kv' : Value} {tmp : Obj} (h : Hold w0 w x5 x6 f kv ks) (hi : i < 2) (hK : TKept w1 bt v (f i).L) (hv : ∀ g, v.ownBlock = some g → w.heap.size ≤ g) (b1 : Below w.heap.size w w1)
    (hO : OwnP w2 w1.heap.size u (f i).L) (b2 : Below w1.heap.size w1 w2) (hg : (w2.alloc tmp).grownBy w3 kv.ownBlock) (ho : w3.ownsRow w0.heap.size 47 2 kv' (ks.length + 1) (ks.flatMap kC ++ [.func (.func 39) #[] #[pT bt], u])) :
    Hold w0 w3 x5 x6 f kv' (ks ++ [⟨bt, v, (f i).L, u⟩]) := by
  have b12 := b1.trans (b2.mono b1.size)
  have h2 := (h.below b12).gr ((Gr.refl w2).alloc tmp)
  have C := Chg.grownR hg
  have k := h2.ty.pr i hi
  have far : ∀ {y t : Nat} {m : List Value}, Bk (w2.alloc tmp) y t m → t ≠ 47 → ¬ kv.ownBlock = some y := fun {y t m} hy ht e => by
    obtain ⟨cur, kc⟩ := own_bk h2.own e
    exact ht (bk_ty hy kc)
  have hK2 : TKept (w2.alloc tmp) bt v (f i).L := (hK.below b2).gr ((Gr.refl w2).alloc tmp)
  have hO2 : OwnP (w2.alloc tmp) w0.heap.size u (f i).L := own_mono (own_below hO ((Gr.refl w2).alloc tmp).below) (Nat.le_trans h.bel.size b1.size)
  have keepT : ∀ {b : Nat} {v : Value} {L : List En}, TKept (w2.alloc tmp) b v L → TKept w3 b v L := fun {b v L} hk => hk.kp fun g hgk => C.block g (hk.lt hgk) (by
    rcases hgk with rfl | e | ⟨x, hx, rfl⟩
    · exact far hk.cap (by decide)
    · obtain ⟨_, _, cur, kc⟩ := hk.sl.lt e
      exact far kc (by decide)
    · exact far (hk.ents x hx) (by decide))
  have keepO : ∀ {u : Value} {L : List En}, OwnP (w2.alloc tmp) w0.heap.size u L → OwnP w3 w0.heap.size u L := fun {u L} hk => own_keep hk fun g e => C.block g (hk.lt g e).2 (by
    obtain ⟨cur, kc⟩ := own_bk hk e
    exact far kc (by decide))
  refine ⟨h2.bel.trans (C.below h2.bel.size (fun g e => (h2.own.lt g e).1)), ⟨h2.ty.k5.chg C (far h2.ty.k5 (by decide)), h2.ty.k6.chg C (far h2.ty.k6 (by decide)), fun j hj => ?_, h2.ty.ne⟩, ?_, fun κ hκ => ?_, fun κ hκ j hj => ?_⟩
  · have kj := h2.ty.pr j hj
    refine kj.chg C (far kj.tab.blk (by decide)) (fun g e => ?_) (fun x hx => far (kj.tab.ents x hx) (by decide)) (far kj.ref.blk (by decide)) (fun g e => ?_)
    · obtain ⟨_, _, cur, kc⟩ := kj.tab.sl.lt e
      exact far kc (by decide)
    · obtain ⟨cur, kc⟩ := own_bk kj.ref.own e
      exact far kc (by decide)
  · rw [List.length_append, List.flatMap_append]
    exact ho
  · rcases List.mem_append.1 hκ with hκ | hκ
    · exact ⟨keepT (h2.ent κ hκ).1, keepO (h2.ent κ hκ).2⟩
    · obtain rfl := List.mem_singleton.1 hκ
      exact ⟨keepT hK2, keepO hO2⟩
  · rcases List.mem_append.1 hκ with hκ | hκ
    · exact h.apart κ hκ j hj
    · obtain rfl := List.mem_singleton.1 hκ
      refine ⟨fun g e1 e2 => ?_, fun g e1 e2 => ?_⟩
      · have h3 := hv g e1
        have := ((h.ty.pr j hj).tab.sl.lt e2).1
        omega
      · have h3 := (hO.lt g e1).1
        have := ((h.ty.pr j hj).ref.own.lt g e2).2
        have := b1.size
        omega
end
end Go.Proofs.YtjnjpjpgokdciaaDoor
