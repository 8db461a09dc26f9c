/- The law's first: the first 401 cells of a walk, in a row of its own. -/
import Derived.Test.YtmoddfikhipagaaCl
import Derived.Maps.OwnIn
import Derived.Maps.AppendAt
set_option linter.unusedSimpArgs false
set_option linter.unusedVariables false
namespace Go.Proofs.Ytmoddfikhipagaa
open Go.RowKit Go.Sort Go.Shelf
attribute [local go_sem] Oper.semAt_some wide_fn
attribute [local simp] wide_fn

/-- The cells of a list, in a row. -/
def flat : List C2 → List Value
  | [] => []
  | p :: r => .int .i32 p.1 :: .int .i32 p.2 :: flat r
theorem flat_at (l : List C2) (i : Nat) (h : i < l.length) : (flat l)[i * 2]? = some (.int .i32 (l.getD i (0, 0)).1) ∧ (flat l)[i * 2 + 1]? = some (.int .i32 (l.getD i (0, 0)).2) := by
  induction l generalizing i with
  | nil => simp at h
  | cons p r ih =>
    cases i with
    | zero => simp [flat]
    | succ j =>
      have := ih j (by simpa using h)
      rw [show (j + 1) * 2 = j * 2 + 1 + 1 by omega]
      simpa [flat] using this
theorem flat_len (l : List C2) : (flat l).length = l.length * 2 := by
  induction l with
  | nil => rfl
  | cons p r ih => simp [flat, ih]; omega
theorem flat_append (l r : List C2) : flat (l ++ r) = flat l ++ flat r := by
  induction l with
  | nil => rfl
  | cons p t ih => simp [flat, ih]
theorem flat_one (l : List C2) (p : C2) : flat (l ++ [p]) = flat l ++ [.int .i32 p.1, .int .i32 p.2] := by rw [flat_append]; rfl
theorem flat_cell (l : List C2) : ∀ u ∈ flat l, u.oneCell' = true := by
  induction l with
  | nil => simp [flat]
  | cons p r ih =>
    intro u hu
    simp only [flat, List.mem_cons] at hu
    rcases hu with rfl | rfl | hu
    · rfl
    · rfl
    · exact ih u hu
/-- A list of cells that a slice reads. -/
def Pts (w : World) (ao : Option Addr) (l : List C2) : Prop := ∀ i, i < l.length → ∃ b off, ao = some ⟨b, off, none⟩ ∧
  w.cell? ⟨b, off + i * 2, none⟩ = some (.int .i32 (l.getD i (0, 0)).1) ∧ w.cell? ⟨b, off + i * 2 + 1, none⟩ = some (.int .i32 (l.getD i (0, 0)).2)
theorem Pts.mono {w w' : World} {ao : Option Addr} {l : List C2} (h : Pts w ao l) (g : Below w.heap.size w w') : Pts w' ao l := fun i hi => by
  obtain ⟨b, off, e, h1, h2⟩ := h i hi
  exact ⟨b, off, e, below_cell h1 g, below_cell h2 g⟩
theorem Pts.of_own {w : World} {base : Nat} {n : Nat} {v : Value} {l : List C2} (h : w.ownsRow base 26 2 v n (flat l)) : ∃ ao cap, v = .slice ao l.length cap ∧ Pts w ao l ∧ n = l.length := by
  have hn : n = l.length := by have := h.1; rw [flat_len] at this; omega
  subst hn
  rcases h.2 with ⟨rfl, h0⟩ | ⟨g, cap, cur, rfl, _⟩
  · exact ⟨none, 0, by rw [h0], fun i hi => by omega, rfl⟩
  · refine ⟨_, cap, rfl, fun i hi => ?_, rfl⟩
    obtain ⟨f0, f1⟩ := flat_at l i hi
    have c0 := h.cells (g := g) rfl _ _ f0
    have c1 := h.cells (g := g) rfl _ _ f1
    have e : ∀ k, (⟨g, 0, none⟩ : Addr).add k = ⟨g, 0 + k, none⟩ := fun k => by unfold Addr.add; split <;> simp_all
    rw [e] at c0 c1
    exact ⟨g, 0, rfl, c0, by rw [← c1]; rfl⟩

theorem SeqO.later {α : Type} {n gf : Nat} {lb : Array Value} {encs : α → Array Value} {L : List α} {p0 : Nat → Prop} {w w' : World} (h : SeqO n gf lb encs L p0 w) (k : Kp p0 w w') (hs : w.heap.size ≤ w'.heap.size) : SeqO n gf lb encs L p0 w' :=
  fun l J Jx p W h1 h2 h3 h4 h5 h6 h7 h8 => h l J Jx p W (k.t h1) h2 h3 (Nat.le_trans hs h4) h5 h6 h7 h8

/-- What first holds between two rounds. -/
def FirI (w : World) (p : Nat → Prop) (pre : List C2) (W : World) : Prop :=
  ∃ v, Boxed W w.heap.size 38 v ∧ W.ownsRow w.heap.size 26 2 v pre.length (flat pre) ∧ (∀ g, v.ownBlock = some g → ¬ p g) ∧ ¬ p w.heap.size ∧ Below w.heap.size w W ∧ pre.length ≤ 400
def FirX (w : World) (c : Code) (pre : List C2) (W : World) : Prop :=
  ∃ v, Boxed W w.heap.size 38 v ∧ W.ownsRow w.heap.size 26 2 v pre.length (flat pre) ∧ Below w.heap.size w W ∧ pre.length = 401 ∧ c = .exit 0
theorem below_grown {n : Nat} {w A A' : World} {row : Option Nat} (h : Below n w A) (hg : A.grownBy A' row) (hr : ∀ r, row = some r → n ≤ r) (hn : n ≤ A.heap.size) : Below n w A' :=
  h.grown hg hn (fun k hk => hr k hk)
theorem own_lt {W : World} {base e size : Nat} {v : Value} {n : Nat} {xs : List Value} (h : W.ownsRow base e size v n xs) {g : Nat} (hg : v.ownBlock = some g) : g < W.heap.size ∧ ∃ cur, W.heap[g]? = some (.cells cur e (0, 0)) := by
  rcases h.2 with ⟨rfl, _⟩ | ⟨g', cap, cur, rfl, _, hgb, _⟩
  · cases hg
  · obtain rfl : g' = g := by simpa [Value.ownBlock] using hg
    exact ⟨(Array.getElem?_eq_some_iff.1 hgb).1, cur, hgb⟩
theorem own_keep {W W' : World} {base e size : Nat} {v : Value} {n : Nat} {xs : List Value} {row : Option Nat} (h : W.ownsRow base e size v n xs) (hg : W.grownBy W' row) (hne : ∀ g, v.ownBlock = some g → some g ≠ row) : W'.ownsRow base e size v n xs := by
  refine h.kept hg ?_
  cases hv : v.ownBlock with
  | none => exact .inl rfl
  | some g => exact .inr (by have := hne g hv; intro e; exact this e)
theorem fir_con {w : World} {B : Nat} (hB : w.heap.size < B) : Con B (FirI w) := by
  refine ⟨?_, ?_, fun p q s A ⟨v, h1, h2, h3, h4, h5, h6⟩ hb => ⟨v, h1, h2, fun g e h => h3 g e (hb g h), fun h => h4 (hb _ h), h5, h6⟩⟩
  · rintro p s A A' row ⟨v, h1, h2, h3, h4, h5, h6⟩ hg hr
    refine ⟨v, h1.kept hg (fun e => by have := (hr _ e.symm).1; omega), own_keep h2 hg (fun g e e' => ?_), h3, h4, below_grown h5 hg (fun r e => by have := (hr r e).1; omega) h5.size, h6⟩
    obtain ⟨_, hp | ⟨o, ho, hc⟩⟩ := hr g e'.symm
    · exact h3 g e hp
    · obtain ⟨_, cur, hcur⟩ := own_lt h2 e
      rw [hcur] at ho
      cases ho
      cases hc
  · rintro p s A b ⟨v, h1, h2, h3, h4, h5, h6⟩ hb
    refine ⟨v, h1, h2, fun g e => ?_, ?_, h5, h6⟩
    · rintro (h | rfl)
      · exact h3 g e h
      · have := (own_lt h2 e).1; omega
    · rintro (h | h)
      · exact h4 h
      · have := h1.lt; omega
theorem fir_conx {w : World} {B : Nat} (hB : w.heap.size < B) (c : Code) : OwnFrom B (FirX w c) := by
  rintro s A A' row ⟨v, h1, h2, h5, h6⟩ hg hr
  refine ⟨v, h1.kept hg (fun e => by have := (hr _ e.symm).1; omega), own_keep h2 hg (fun g e e' => ?_), below_grown h5 hg (fun r e => by have := (hr r e).1; omega) h5.size, h6⟩
  obtain ⟨_, o, ho, hc⟩ := hr g e'.symm
  obtain ⟨_, cur, hcur⟩ := own_lt h2 e
  rw [hcur] at ho
  cases ho
  cases hc
theorem two_new (w : World) (x0 x1 : Value) : ∀ (j : Nat) (u : Value), [x0, x1][j]? = some u → (w.alloc (.cells #[x0, x1] 26)).cell? ((⟨w.heap.size, 0, none⟩ : Addr).add j) = some u := by
  intro j u hj
  match j, hj with
  | 0, hj => simp at hj; subst hj; simp [Addr.add]
  | 1, hj => simp at hj; subst hj; simp [Addr.add]

theorem Try.info26 : (Try.prog.info? 26).map (fun i => (i.zero, i.size, i.bytes)) = some (some (.agg #[.int .i32 0, .int .i32 0]), 2, 8) := by kernel_rfl

theorem run_eqf_in (d gf : Nat) (lb : Array Value) (w : World) : (Op.equalIn (d + 1) 35 (.func (.func gf) #[] lb) .nilFunc).run Try.prog w = .ok false w := by
  simp [Op.equalIn, run_underlying Try.underlying35]
theorem run_eqf (gf : Nat) (lb : Array Value) (w : World) : (binOp .eql 35 (.func (.func gf) #[] lb) .nilFunc).run Try.prog w = .ok (.bool false) w := by
  have h : (Op.equal 35 (.func (.func gf) #[] lb) .nilFunc).run Try.prog w = .ok false w := run_eqf_in 9999 gf lb w
  simp [binOp, h]
theorem keep_p {p : Nat → Prop} {W w1 : World} {tmp : Obj} {v : Value} {B : Nat} {v' : Value} (hp : ∀ b, p b → b < W.heap.size) (hB : ¬ p B) (hv : ∀ g, v.ownBlock = some g → ¬ p g) (hg : (W.alloc tmp).grownBy w1 v.ownBlock) : Kp p W (w1.setCell ⟨B, 0, none⟩ v') := fun b hb => by
  have hlt := hp b hb
  have hne : b ≠ B := fun e => hB (e ▸ hb)
  rw [Below.heap_setCell w1 ⟨B, 0, none⟩ v' b hne, hg.block b (by simp; omega) (fun e => hv b e.symm hb)]
  exact heap_alloc_old W tmp b hlt

set_option maxRecDepth 100000 in
set_option maxHeartbeats 4000000 in
theorem first_in (n : Nat) (hn : 6 ≤ n) (gf : Nat) (lb : Array Value) (L : List C2) (p0 : Nat → Prop) (w : World) (hp0 : ∀ b, p0 b → b < w.heap.size) (eg : ∀ args w, (callFunc gf args).run Try.prog w = .ok (.enter gf args) w) (hseq : SeqO (n - 1) gf lb cEnc L p0 w) :
    CallsIn Fence.wide n Try.prog 16 #[.func (.func gf) #[] lb] w fun e w' => ∃ v, e = .returned v ∧ w'.ownsRow w.heap.size 26 2 v (L.take 401).length (flat (L.take 401)) ∧ Below w.heap.size w w' := by
  obtain ⟨i0, hi, hz0, hz1, hz2⟩ := info_parts Try.info26
  have hE := run_eqf gf lb
  refine callsIn_of_wp_marks Try.func16 rfl trivial ?_ rfl
  simp only [Try.ntmps16, List.size_toArray, List.length_cons, List.length_nil, Nat.reduceAdd, Nat.reduceSub, Array.replicate_succ, Array.replicate_zero, List.push_toArray, List.append_toArray, List.nil_append, List.cons_append]
  have h1n : 1 ≤ n := by omega
  gi_wp2
  have b3 := Boxed.new w 38 (.slice none 0 0)
  have g0 : Gr w (w.alloc (.cells #[.slice none 0 0] 38)) := (Gr.refl _).alloc _
  have hsz : (w.alloc (.cells #[.slice none 0 0] 38)).heap.size = w.heap.size + 1 := by simp
  generalize w.alloc (.cells #[.slice none 0 0] 38) = W0 at *
  refine range_out (p0 := p0) (L := L) (I := FirI w) (Ix := FirX w)
    (Ax := fun x a' W => ∃ Bx, W0.heap.size ≤ Bx ∧ Bk W Bx 26 [.int .i32 x.1, .int .i32 x.2] ∧ a' = { tmps := #[.func (.func gf) #[] lb, undef, .slice none 0 0, .pointer (some ⟨w.heap.size, 0, none⟩), .pointer (some ⟨Bx, 0, none⟩), .func (.func gf) #[] lb, .bool false, undef, undef, undef, .func (.func gf) #[] lb, pt x.1 x.2, undef, undef, undef, undef, undef, undef, undef, undef], defers := [] })
    rfl eg (hseq.later (Kp.gr hp0 g0) g0.size) ?owes p0 (fun b h => h) (fun b hb => Nat.lt_of_lt_of_le (hp0 b hb) g0.size) ?start ?done ?stop
  case start =>
    exact ⟨_, b3, World.ownsRow_nil _ _ _ _, fun g e => (by cases e), fun h => (by have := hp0 _ h; omega), g0.below, by simp⟩
  case owes =>
    refine ⟨fir_con (by omega), fir_conx (by omega), ?_, fun _ => rfl, ?_, ?_⟩
    · rintro x a' _ X Y row ⟨Bx, e1, e2, e3⟩ hg hr
      refine ⟨Bx, e1, ?_, e3⟩
      refine e2.same (hg.block Bx e2.lt (fun e => ?_))
      obtain ⟨_, o, ho, hc⟩ := hr Bx e.symm
      unfold Bk at e2
      rw [e2] at ho
      cases ho
      cases hc
    · rintro l p pre x W K hp hpb hI hsW hK
      have g : Gr W (W.alloc (.cells #[.int .i32 x.1, .int .i32 x.2] 26)) := (Gr.refl _).alloc _
      gi_wp2
      exact hK _ _ (g.from _) (Kp.gr hpb g) ((fir_con (B := W0.heap.size) (by omega)).gr hI g) ⟨W.heap.size, hsW, Bk.new W 26 _, rfl⟩
    · rintro l p pre x a' W hl ⟨r, hr⟩ hp hpb ⟨v, bv, hown, hvp, hBp, hBel, hlen⟩ ⟨Bx, hBx, kx, rfl⟩ hpre
      obtain ⟨x0, x1⟩ := kx.two
      have cv0 := bv.cell
      have h2n : 1 ≤ n - 1 - 1 := by omega
      have hb8 : pre.length + 1 ≤ maxLen := by unfold maxLen; omega
      have hw0 : w.heap.size ≤ W.heap.size := hBel.size
      have hlen2 : (pre ++ [x]).length = pre.length + 1 := by simp
      have HF := hid0 (flat_one pre x)
      by_cases h400 : pre.length = 400
      · gi_wp2_with (gi_at_builtin; refine wpListIn_append_own_at _ rfl _ _ 38 rfl w.heap.size 26 i0 (.agg #[.int .i32 0, .int .i32 0]) 2 8 Try.underlying38 hi hz0 hz1 hz2 rfl (by decide) _ _ _ rfl (hown.alloc _) ⟨W.heap.size, 0, none⟩ 1 1 [.int .i32 x.1, .int .i32 x.2] rfl rfl (two_new _ _ _) (by simp [Value.oneCell']) hb8 (by omega) (by simp; omega) ?_; intro v' w1 hown' hgrow _ hat; obtain ⟨g', cap', rfl⟩ := ownsRow_succ hown'; obtain ⟨hv1, hv2, hr2, hk2, hb2⟩ := bv.appended (by decide) hown hw0 (Nat.le_refl _) hown' hgrow; have hc1 := hv1.cell; have hf1 := hv1.frozen; have hc2 := hv2.cell)
        have e401 : pre.length + 1 = 401 := by omega
        rw [e401] at hv2 hr2 hk2 hb2
        exact ⟨hk2.from _, _, hv2, by rw [hlen2, e401, HF.out]; exact hr2, hBel.trans hb2, by omega, rfl⟩
      · have h400' : ¬ ((pre.length : Int) + 1 > 400) := by omega
        gi_wp2_with (gi_at_builtin; refine wpListIn_append_own_at _ rfl _ _ 38 rfl w.heap.size 26 i0 (.agg #[.int .i32 0, .int .i32 0]) 2 8 Try.underlying38 hi hz0 hz1 hz2 rfl (by decide) _ _ _ rfl (hown.alloc _) ⟨W.heap.size, 0, none⟩ 1 1 [.int .i32 x.1, .int .i32 x.2] rfl rfl (two_new _ _ _) (by simp [Value.oneCell']) hb8 (by omega) (by simp; omega) ?_; intro v' w1 hown' hgrow _ hat; obtain ⟨g', cap', rfl⟩ := ownsRow_succ hown'; obtain ⟨hv1, hv2, hr2, hk2, hb2⟩ := bv.appended (by decide) hown hw0 (Nat.le_refl _) hown' hgrow; have hc1 := hv1.cell; have hf1 := hv1.frozen; have hc2 := hv2.cell)
        have hat' : some g' = v.ownBlock ∨ some g' = some (W.heap.size + 1) := hat.imp (fun h => h) (fun h => by simpa [Value.ownBlock] using h)
        refine ⟨hk2.from _, keep_p hpb hBp hvp hgrow, _, hv2, by rw [hlen2, HF.out]; exact hr2, ?_, hBp, hBel.trans hb2, by omega⟩
        intro g e hg
        obtain rfl : g' = g := by simpa [Value.ownBlock] using e
        rcases hat' with h | h
        · exact hvp g' h.symm hg
        · have h1 := hpb g' hg
          simp at h
          omega
  case done =>
    rintro D q W hD ⟨v, bv, hown, _, _, hBel, hlen⟩ hq hK
    have cv0 := bv.cell
    have eL : L.take 401 = L := List.take_of_length_le (by omega)
    rw [← eL] at hown
    gi_wp2
    refine ⟨by simp, .inl ⟨_, _, rfl, run_takeDeferred hK, ?_⟩⟩
    exact ⟨_, results_tmp rfl _ _ _, _, rfl, ownsRow_putObj hown _ hK rfl, hBel.trans (belowK_b (w := w) (Nat.le_refl _) W D _ _ (by omega) hK rfl rfl)⟩
  case stop =>
    rintro D c pre W hD hpre ⟨v, bv, hown, hBel, h401, rfl⟩ hK
    have cv0 := bv.cell
    have eL : pre = L.take 401 := by
      obtain ⟨t, rfl⟩ := hpre
      rw [← h401, List.take_left]
    rw [eL] at hown
    gi_wp2
    refine ⟨by simp, .inl ⟨_, _, rfl, run_takeDeferred hK, ?_⟩⟩
    exact ⟨_, results_tmp rfl _ _ _, _, rfl, ownsRow_putObj hown _ hK rfl, hBel.trans (belowK_b (w := w) (Nat.le_refl _) W D _ _ (by omega) hK rfl rfl)⟩
end Go.Proofs.Ytmoddfikhipagaa
