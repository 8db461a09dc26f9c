/- The law's numbers: what a walk over a set tells, in a row of its own, left behind so many. -/
import Derived.Test.YtjnjpjpgokdciaaDoorAi
import Derived.RangeFuncBox
import Derived.Deep.LoopGhost
import Derived.Maps.OwnIn
import Derived.Maps.AppendAt
set_option linter.unusedSimpArgs false
set_option linter.unusedVariables false
namespace Go.Proofs.YtjnjpjpgokdciaaDoor
open Go.RowKit Go.Sort Go.Shelf
attribute [local go_sem] Oper.semAt_some wide_fn
attribute [local simp] wide_fn

abbrev idvN (x : Nat) : Value := .int .i64 (x : Int)
/-- What is told, left behind m numbers. -/
def leftLN (m : Int) (L : List Nat) : List Nat := if 1 ≤ m ∧ m ≤ L.length then L.take m.toNat else L
def FirIN (w : World) (m : Int) (p : Nat → Prop) (pre : List Nat) (W : World) : Prop :=
  ∃ v, Boxed W (w.heap.size + 1) 82 v ∧ Bk W w.heap.size 3 [.int .i64 m] ∧ W.ownsRow w.heap.size 3 1 v pre.length (pre.map idvN) ∧ (∀ g, v.ownBlock = some g → ¬ p g) ∧ ¬ p (w.heap.size + 1) ∧ Below w.heap.size w W ∧ ((1 : Int) ≤ m → (pre.length : Int) < m) ∧ pre.length ≤ 1000000 ∧ (∀ g, v.ownBlock = some g → g ≠ w.heap.size)
def FirXN (w : World) (m : Int) (c : Code) (pre : List Nat) (W : World) : Prop :=
  ∃ v, Boxed W (w.heap.size + 1) 82 v ∧ W.ownsRow w.heap.size 3 1 v pre.length (pre.map idvN) ∧ Below w.heap.size w W ∧ ((pre.length : Int) = m ∧ 1 ≤ m) ∧ c = .exit 0
theorem below_grownN {n : Nat} {w A A' : World} {row : Option Nat} (h : Below n w A) (hg : A.grownBy A' row) (hr : ∀ r, row = some r → n ≤ r) (hn : n ≤ A.heap.size) : Below n w A' :=
  h.grown hg hn (fun k hk => hr k hk)
theorem own_ltN {W : World} {base e size : Nat} {v : Value} {n : Nat} {xs : List Value} (h : W.ownsRow base e size v n xs) {g : Nat} (hg : v.ownBlock = some g) : g < W.heap.size ∧ base ≤ g ∧ ∃ cur, W.heap[g]? = some (.cells cur e (0, 0)) := by
  rcases h.2 with ⟨rfl, _⟩ | ⟨g', cap, cur, rfl, hb, hgb, _⟩
  · cases hg
  · obtain rfl : g' = g := by simpa [Value.ownBlock] using hg
    exact ⟨(Array.getElem?_eq_some_iff.1 hgb).1, hb, cur, hgb⟩
theorem own_keepN {W W' : World} {base e size : Nat} {v : Value} {n : Nat} {xs : List Value} {row : Option Nat} (h : W.ownsRow base e size v n xs) (hg : W.grownBy W' row) (hne : ∀ g, v.ownBlock = some g → some g ≠ row) : W'.ownsRow base e size v n xs := by
  refine h.kept hg ?_
  cases hv : v.ownBlock with
  | none => exact .inl rfl
  | some g => exact .inr (by have := hne g hv; intro e; exact this e)
theorem fir_conN {w : World} {m : Int} {B : Nat} (hB : w.heap.size + 1 < B) : Con B (FirIN w m) := by
  refine ⟨?_, ?_, fun p q s A ⟨v, h1, h2, h3, h4, h5, h6⟩ hb => ⟨v, h1, h2, h3, fun g e h => h4 g e (hb g h), fun h => h5 (hb _ h), h6⟩⟩
  · rintro p s A A' row ⟨v, h1, h2, h3, h4, h5, h6, h7⟩ hg hr
    refine ⟨v, h1.kept hg (fun e => by have := (hr _ e.symm).1; omega), h2.same (hg.block _ h2.lt (fun e => by have := (hr _ e.symm).1; omega)), own_keepN h3 hg (fun g e e' => ?_), h4, h5, below_grownN h6 hg (fun r e => by have := (hr r e).1; omega) h6.size, h7⟩
    obtain ⟨_, o, ho, hc⟩ := hr g e'.symm
    obtain ⟨_, _, cur, hcur⟩ := own_ltN h3 e
    rw [hcur] at ho
    cases ho
    cases hc
  · rintro p s A b ⟨v, h1, h2, h3, h4, h5, h6⟩ hb
    refine ⟨v, h1, h2, h3, fun g e => ?_, ?_, h6⟩
    · rintro (h | rfl)
      · exact h4 g e h
      · have := (own_ltN h3 e).1; omega
    · rintro (h | h)
      · exact h5 h
      · have := h1.lt; omega
theorem fir_conxN {w : World} {m : Int} {B : Nat} (hB : w.heap.size + 1 < B) (c : Code) : OwnFrom B (FirXN w m c) := by
  rintro s A A' row ⟨v, h1, h2, h5, h6⟩ hg hr
  refine ⟨v, h1.kept hg (fun e => by have := (hr _ e.symm).1; omega), own_keepN h2 hg (fun g e e' => ?_), below_grownN h5 hg (fun r e => by have := (hr r e).1; omega) h5.size, h6⟩
  obtain ⟨_, o, ho, hc⟩ := hr g e'.symm
  obtain ⟨_, _, cur, hcur⟩ := own_ltN h2 e
  rw [hcur] at ho
  cases ho
  cases hc
theorem one_newN (w : World) (x0 : Value) : ∀ (j : Nat) (u : Value), [x0][j]? = some u → (w.alloc (.cells #[x0] 3)).cell? ((⟨w.heap.size, 0, none⟩ : Addr).add j) = some u := by
  intro j u hj
  match j, hj with
  | 0, hj => simp at hj; subst hj; simp [Addr.add]
theorem Tryd.info3 : (Tryd.prog.info? 3).map (fun i => (i.zero, i.size, i.bytes)) = some (some (.int .i64 0), 1, 8) := by kernel_rfl
theorem run_eqf_in (d gf : Nat) (lb : Array Value) (w : World) : (Op.equalIn (d + 1) 79 (.func (.func gf) #[] lb) .nilFunc).run Tryd.prog w = .ok false w := by
  simp [Op.equalIn, run_underlying Tryd.underlying79]
theorem run_eqf (gf : Nat) (lb : Array Value) (w : World) : (binOp .eql 79 (.func (.func gf) #[] lb) .nilFunc).run Tryd.prog w = .ok (.bool false) w := by
  have h : (Op.equal 79 (.func (.func gf) #[] lb) .nilFunc).run Tryd.prog w = .ok false w := run_eqf_in 9999 gf lb w
  simp [binOp, h]
theorem keep_pN {p : Nat → Prop} {W w1 : World} {tmp : Obj} {v : Value} {B : Nat} {v' : Value} (hp : ∀ b, p b → b < W.heap.size) (hB : ¬ p B) (hv : ∀ g, v.ownBlock = some g → ¬ p g) (hg : (W.alloc tmp).grownBy w1 v.ownBlock) : Kp p W (w1.setCell ⟨B, 0, none⟩ v') := fun b hb => by
  have hlt := hp b hb
  have hne : b ≠ B := fun e => hB (e ▸ hb)
  rw [Below.heap_setCell w1 ⟨B, 0, none⟩ v' b hne, hg.block b (by simp; omega) (fun e => hv b e.symm hb)]
  exact ((Gr.refl W).alloc tmp).below.block b hlt
theorem SeqO.later {α : Type} {n gf : Nat} {lb : Array Value} {encs : α → Array Value} {L : List α} {p0 : Nat → Prop} {w w' : World} (h : SeqO n gf lb encs L p0 w) (k : Gr w w') : SeqO n gf lb encs L p0 w' :=
  fun l J Jx p W h1 h2 h3 h5 h6 h7 h8 => h l J Jx p W (k.trans h1) h2 h3 h5 h6 h7 h8
theorem most_keepN {W w1 : World} {tmp : Obj} {v : Value} {B : Nat} {v' : Value} {b : Nat} {l : List Value} {t : TypeId} (k : Bk W b t l) (hB : b ≠ B) (hv : v.ownBlock ≠ some b) (hg : (W.alloc tmp).grownBy w1 v.ownBlock) : Bk (w1.setCell ⟨B, 0, none⟩ v') b t l :=
  ((k.alloc tmp).same (hg.block b (k.alloc tmp).lt (fun e => hv e.symm))).other (a := ⟨B, 0, none⟩) hB v'
set_option maxRecDepth 100000 in
set_option maxHeartbeats 4000000 in
theorem told_in (n : Nat) (hn : 6 ≤ n) (gf : Nat) (lb : Array Value) (L : List Nat) (hL : L.length ≤ 1000000) (m : Int) (p0 : Nat → Prop) (w : World) (hp0 : ∀ b, p0 b → b < w.heap.size) (eg : ∀ args w, (callFunc gf args).run Tryd.prog w = .ok (.enter gf args) w) (hseq : SeqO (n - 1) gf lb nEnc L p0 w) :
    CallsIn Fence.wide n Tryd.prog 33 #[.func (.func gf) #[] lb, .int .i64 m] w fun e w' => ∃ v, e = .returned v ∧ w'.ownsRow w.heap.size 3 1 v (leftLN m L).length ((leftLN m L).map idvN) ∧ Below w.heap.size w w' := by
  obtain ⟨i0, hi, hz0, hz1, hz2⟩ := info_parts Tryd.info3
  have hE := run_eqf gf lb
  refine callsIn_of_wp_marks Tryd.func33 rfl trivial ?_ rfl
  simp only [Tryd.ntmps33, List.size_toArray, List.length_cons, List.length_nil, Nat.reduceAdd, Nat.reduceSub, Array.replicate_succ, Array.replicate_zero, List.push_toArray, List.append_toArray, List.nil_append, List.cons_append]
  have h1n : 1 ≤ n := by omega
  gi_wp2
  have bm := (Bk.new w 3 [.int .i64 m]).alloc (.cells #[.slice none 0 0] 82)
  have b3 := Boxed.new (w.alloc (.cells #[.int .i64 m] 3)) 82 (.slice none 0 0)
  rw [World.size_alloc] at b3
  have g0 : Gr w ((w.alloc (.cells #[.int .i64 m] 3)).alloc (.cells #[.slice none 0 0] 82)) := ((Gr.refl _).alloc _).alloc _
  have hsz : ((w.alloc (.cells #[.int .i64 m] 3)).alloc (.cells #[.slice none 0 0] 82)).heap.size = w.heap.size + 1 + 1 := by simp
  generalize (w.alloc (.cells #[.int .i64 m] 3)).alloc (.cells #[.slice none 0 0] 82) = W0 at *
  refine range_out (p0 := p0) (L := L) (I := FirIN w m) (Ix := FirXN w m)
    (Ax := fun x a' W => a' = { tmps := #[.func (.func gf) #[] lb, .int .i64 m, undef, .pointer (some ⟨w.heap.size, 0, none⟩), .slice none 0 0, .pointer (some ⟨w.heap.size + 1, 0, none⟩), .int .i64 (x : Int), .func (.func gf) #[] lb, .bool false, undef, .func (.func gf) #[] lb, .int .i64 (x : Int), undef, undef, undef, undef, undef, undef, undef, undef, undef], defers := [] })
    rfl eg (hseq.later g0) ?owes p0 (fun b h => h) (fun b hb => Nat.lt_of_lt_of_le (hp0 b hb) g0.size) ?start ?done ?stop
  case start =>
    exact ⟨_, b3, bm, World.ownsRow_nil _ _ _ _, fun g e => (by cases e), fun h => (by have := hp0 _ h; omega), g0.below, fun h => (by simp; omega), by simp, fun g e => (by cases e)⟩
  case owes =>
    refine ⟨fir_conN (by omega), fir_conxN (by omega), ?_, fun _ => rfl, ?_, ?_⟩
    · rintro x a' _ X Y row hx hg hr
      exact hx
    · rintro l p pre x W K hp hpb hI hsW hK
      gi_wp2
      exact hK _ _ (KeepsFrom.refl _ _) (Kp.refl _) hI rfl
    · rintro l p pre x a' W hl ⟨r, hr⟩ hp hpb ⟨v, bo, bmo, hown, hvp, hBp, hBel, hlt, hlen, hvq⟩ rfl hpre
      have cv0 := bo.cell
      have cm0 := bmo.one
      have h2n : 1 ≤ n - 1 - 1 := by omega
      have hb8 : pre.length + 1 ≤ maxLen := by unfold maxLen; omega
      have hw0 : w.heap.size ≤ W.heap.size := hBel.size
      have hlen2 : (pre ++ [x]).length = pre.length + 1 := by simp
      have HF : Hid ((pre ++ [x]).map idvN = pre.map idvN ++ [.int .i64 (x : Int)]) := by unfold Hid; simp
      have hvm : v.ownBlock ≠ some w.heap.size := fun e => hvq _ e rfl
      have HPL : Hid (pre.length + 1 ≤ L.length) := by obtain ⟨t, ht⟩ := hpre; unfold Hid; rw [← ht]; simp
      clear hpre
      by_cases hm : (pre.length : Int) + 1 = m
      · have HM := hid0 hm
        have hmm : (((pre.length : Int) + 1) == m) = true := by simp [hm]
        clear hm
        gi_wp2_with (gi_at_builtin; refine wpListIn_append_own_at _ rfl _ _ 82 rfl w.heap.size 3 i0 (.int .i64 0) 1 8 Tryd.underlying82 hi hz0 hz1 hz2 rfl (by decide) _ _ _ rfl (hown.alloc _) ⟨W.heap.size, 0, none⟩ 1 1 [.int .i64 (x : Int)] rfl rfl (one_newN _ _) (by simp [Value.oneCell']) hb8 (by omega) (by simp; omega) ?_; intro v' w1 hown' hgrow _ hat; obtain ⟨g', cap', rfl⟩ := ownsRow_succ hown'; obtain ⟨hv1, hv2, hr2, hk2, hb2⟩ := bo.appended (by decide) hown hw0 (by omega) hown' hgrow; have hc1 := hv1.cell; have hf1 := hv1.frozen; have hc2 := hv2.cell; have mk := most_keepN (v' := .slice (some ⟨g', 0, none⟩) (pre.length + 1) cap') bmo (show w.heap.size ≠ w.heap.size + 1 by omega) hvm hgrow; have mc := mk.one)
        exact ⟨hk2.from _, _, hv2, by rw [hlen2, HF.out]; exact hr2, hBel.trans hb2, ⟨by rw [hlen2]; have := HM.out; omega, by have := HM.out; omega⟩, rfl⟩
      · have HM := hid0 hm
        have hmm : (((pre.length : Int) + 1) == m) = false := by simp [hm]
        clear hm
        gi_wp2_with (gi_at_builtin; refine wpListIn_append_own_at _ rfl _ _ 82 rfl w.heap.size 3 i0 (.int .i64 0) 1 8 Tryd.underlying82 hi hz0 hz1 hz2 rfl (by decide) _ _ _ rfl (hown.alloc _) ⟨W.heap.size, 0, none⟩ 1 1 [.int .i64 (x : Int)] rfl rfl (one_newN _ _) (by simp [Value.oneCell']) hb8 (by omega) (by simp; omega) ?_; intro v' w1 hown' hgrow _ hat; obtain ⟨g', cap', rfl⟩ := ownsRow_succ hown'; obtain ⟨hv1, hv2, hr2, hk2, hb2⟩ := bo.appended (by decide) hown hw0 (by omega) hown' hgrow; have hc1 := hv1.cell; have hf1 := hv1.frozen; have hc2 := hv2.cell; have mk := most_keepN (v' := .slice (some ⟨g', 0, none⟩) (pre.length + 1) cap') bmo (show w.heap.size ≠ w.heap.size + 1 by omega) hvm hgrow; have mc := mk.one)
        have hat' : some g' = v.ownBlock ∨ some g' = some (W.heap.size + 1) := hat.imp (fun h => h) (fun h => by simpa [Value.ownBlock] using h)
        refine ⟨hk2.from _, keep_pN hpb hBp hvp hgrow, _, hv2, mk, by rw [hlen2, HF.out]; exact hr2, ?_, hBp, hBel.trans hb2, fun h => ?_, by rw [hlen2]; have := HPL.out; omega, ?_⟩
        · intro g e hg
          obtain rfl : g' = g := by simpa [Value.ownBlock] using e
          rcases hat' with h | h
          · exact hvp g' h.symm hg
          · have h1 := hpb g' hg
            simp at h
            omega
        · rw [hlen2]
          have h1 := hlt h
          have h2 := HM.out
          omega
        · intro g e
          obtain rfl : g' = g := by simpa [Value.ownBlock] using e
          rcases hat' with h | h
          · exact hvq g' h.symm
          · have h1 := bo.lt
            simp at h
            omega
  case done =>
    rintro D q W hD ⟨v, bo, _, hown, _, _, hBel, hlt, hlen, _⟩ hq hK
    have cv0 := bo.cell
    have eL : leftLN m L = L := by unfold leftLN; rw [if_neg]; rintro ⟨h1, h2⟩; have := hlt h1; omega
    rw [← eL] at hown
    gi_wp2
    refine ⟨by simp, .inl ⟨_, _, rfl, run_takeDeferred hK, ?_⟩⟩
    exact ⟨_, results_tmp rfl _ _ _, _, rfl, ownsRow_putObj hown _ hK rfl, hBel.trans (belowK_b (w := w) (Nat.le_refl _) W D _ _ (by omega) hK rfl rfl)⟩
  case stop =>
    rintro D c pre W hD hpre ⟨v, bo, hown, hBel, ⟨h401, h402⟩, rfl⟩ hK
    have cv0 := bo.cell
    have eL : pre = leftLN m L := by
      obtain ⟨t, rfl⟩ := hpre
      unfold leftLN
      rw [if_pos ⟨h402, by simp; omega⟩, ← h401]
      simp
    rw [eL] at hown
    gi_wp2
    refine ⟨by simp, .inl ⟨_, _, rfl, run_takeDeferred hK, ?_⟩⟩
    exact ⟨_, results_tmp rfl _ _ _, _, rfl, ownsRow_putObj hown _ hK rfl, hBel.trans (belowK_b (w := w) (Nat.le_refl _) W D _ _ (by omega) hK rfl rfl)⟩
end Go.Proofs.YtjnjpjpgokdciaaDoor
