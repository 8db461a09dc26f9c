/- cutAll: what its rounds keep. -/
import Derived.Test.YtaapdkjmlplhgaaMj
set_option linter.unusedSimpArgs false
set_option linter.unusedVariables false
namespace Go.Proofs.Ytaapdkjmlplhgaa
open Go.RowKit Go.Sort Go.Shelf

/-- The rounds' word: of what has been told, what is to be cut is cut. -/
structure Wk (B : Nat) (w0 X : World) (d h pb mb most b2 b3 b5 c fb : Nat) (x0 : Int) (P : Du → Bool) (l : List Du) (v0 : Value) (p : Nat → Prop) (pre : List Du) (A : World) : Prop where
  k2 : Bk A b2 23 [.pointer (some ⟨d, 0, none⟩)]
  k3 : Bk A b3 55 [.func (.func c) #[] #[.pointer (some ⟨fb, 0, none⟩)]]
  kf : Bk A fb 30 [.int .u32 x0]
  k5 : Bk A b5 3 [.int .i64 ((pre.filter P).length : Nat)]
  st : ∃ v lst m, Ds B A d h pb mb v lst m most ∧ (∀ y, y ∈ lst ↔ y ∈ l ∧ ¬ (P y = true ∧ y ∈ pre)) ∧ DCh h mb v0 v w0 A ∧ ∀ b, p b → b ≠ h ∧ b ≠ mb ∧ v.ownBlock ≠ some b
  p5 : ∀ b, p b → b ≠ b5
  lo : w0.heap.size ≤ b5 ∧ w0.heap.size ≤ X.heap.size ∧ mb < X.heap.size
section
variable {B : Nat} {w0 w X A A' : World} {d h pb mb most b2 b3 b5 c fb : Nat} {x0 : Int} {P : Du → Bool} {l lst : List Du} {m : Pf} {v0 v v' : Value} {p : Nat → Prop} {pre : List Du}
theorem DCh.tr (C : DCh h mb v0 v w A) (C' : DCh h mb v v' A A') : DCh h mb v0 v' w A' := by
  refine ⟨C.chg.next C'.chg (fun j hj e => ?_), fun g e => ?_⟩
  · rcases e with e | e | e
    · exact .inl e
    · exact .inr (.inl e)
    · rcases C.new j e with h | h
      · exact .inr (.inr h)
      · omega
  · rcases C'.new g e with h | h
    · exact C.new g h
    · have := C.chg.size; exact .inr (by omega)
theorem DCh.far' {q : Nat → Prop} (C : DCh h mb v0 v w A) (c : Chg q A A') (hq : ∀ k, q k → w.heap.size ≤ k) : DCh h mb v0 v w A' :=
  ⟨C.chg.next c (fun j hj e => by have := hq j e; omega), C.new⟩
theorem DCh.refl (h mb : Nat) (v : Value) (w : World) : DCh h mb v v w w := ⟨Chg.refl _ _, fun g e => .inl e⟩
theorem Ds.far {q : Nat → Prop} (D : Ds B A d h pb mb v lst m most) (c : Chg q A A') (nc : ∀ b t cs, Bk A b t cs → ¬ q b) (nm : ¬ q mb) : Ds B A' d h pb mb v lst m most :=
  D.chg c (nc _ _ _ D.due) (nc _ _ _ D.hv.heap) (nc _ _ _ D.hv.cap) (fun g e => by obtain ⟨_, _, cur, hr⟩ := row_lt D.hv.row e; exact nc _ _ _ hr) nm
theorem Wk.chg {q : Nat → Prop} (W : Wk B w0 X d h pb mb most b2 b3 b5 c fb x0 P l v0 p pre A) (g : Chg q A A') (hq : ∀ k, q k → w0.heap.size ≤ k) (nc : ∀ b t cs, Bk A b t cs → ¬ q b) (nm : ¬ q mb) :
    Wk B w0 X d h pb mb most b2 b3 b5 c fb x0 P l v0 p pre A' := by
  obtain ⟨k2, k3, kf, k5, ⟨v, lst, m, D, M, C, pp⟩, p5, lo⟩ := W
  exact ⟨k2.chg g (nc _ _ _ k2), k3.chg g (nc _ _ _ k3), kf.chg g (nc _ _ _ kf), k5.chg g (nc _ _ _ k5), ⟨v, lst, m, D.far g nc nm, M, C.far' g hq, pp⟩, p5, lo⟩
theorem wk_con : Con X.heap.size (Wk B w0 X d h pb mb most b2 b3 b5 c fb x0 P l v0) := by
  refine ⟨fun p s A A' row W hg hr => ?_, fun p s A b W hb => ?_, fun p q s A W hb => ?_⟩
  · refine W.chg (Chg.grownR hg) (fun k e => ?_) (fun b t cs k e => ?_) (fun e => ?_)
    · have := (hr k e).1; have := W.lo; omega
    · obtain ⟨o, h1, h2⟩ := (hr b e).2
      unfold Bk at k
      rw [k] at h1
      cases h1
      cases h2
    · have := (hr mb e).1; have := W.lo; omega
  · obtain ⟨k2, k3, kf, k5, ⟨v, lst, m, D, M, C, pp⟩, p5, lo⟩ := W
    refine ⟨k2, k3, kf, k5, ⟨v, lst, m, D, M, C, fun c hc => ?_⟩, fun c hc => ?_, lo⟩
    · rcases hc with hc | rfl
      · exact pp c hc
      · exact D.aside_new hb
    · rcases hc with hc | rfl
      · exact p5 c hc
      · have := k5.lt; omega
  · obtain ⟨k2, k3, kf, k5, ⟨v, lst, m, D, M, C, pp⟩, p5, lo⟩ := W
    exact ⟨k2, k3, kf, k5, ⟨v, lst, m, D, M, C, fun c hc => pp c (hb c hc)⟩, fun c hc => p5 c (hb c hc), lo⟩
/-- What a call on the Dues leaves of what is no cells, and of the walk's own blocks. -/
theorem DCh.keeps (C : DCh h mb v v' A A') (D : Ds B A d h pb mb v lst m most) (hmb : mb < X.heap.size) (hpb : ∀ b, p b → b < A.heap.size) (pp : ∀ b, p b → b ≠ h ∧ b ≠ mb ∧ v.ownBlock ≠ some b) :
    KeepsFrom X.heap.size A A' ∧ Kp p A A' := by
  refine ⟨⟨C.chg.size, fun k o hk0 hk ho => ?_⟩, fun b hb => (C.far (hpb b hb) (pp b hb)).1⟩
  refine (C.chg.block k (lt_of_block hk) ?_).trans hk
  rintro (e | e | e)
  · exact bk_keeps D.hv.heap hk ho e
  · omega
  · obtain ⟨_, _, cur, hr⟩ := row_lt D.hv.row e
    exact bk_keeps hr hk ho rfl
theorem set_keeps {b t i : Nat} {cs : List Value} (k : Bk A b t cs) (hp : ∀ c, p c → c ≠ b) (z : Value) : KeepsFrom X.heap.size A (A.setCell ⟨b, i, none⟩ z) ∧ Kp p A (A.setCell ⟨b, i, none⟩ z) :=
  ⟨⟨(Chg.set (p := fun q => q = b) A (a := ⟨b, i, none⟩) rfl z).size, fun j o _ hk ho => (Below.heap_setCell _ _ _ _ (bk_keeps k hk ho)).trans hk⟩, fun c hc => Below.heap_setCell _ _ _ _ (hp c hc)⟩
/-- What is told and not to be cut changes nothing; what is to be cut leaves the Dues. -/
theorem mem_skip {x : Du} (hP : P x = false) (M : ∀ y, y ∈ lst ↔ y ∈ l ∧ ¬ (P y = true ∧ y ∈ pre)) : ∀ y, y ∈ lst ↔ y ∈ l ∧ ¬ (P y = true ∧ y ∈ pre ++ [x]) := by
  intro y
  rw [M y]
  constructor
  · rintro ⟨h1, h2⟩
    refine ⟨h1, fun ⟨h3, h4⟩ => ?_⟩
    rcases List.mem_append.1 h4 with h | h
    · exact h2 ⟨h3, h⟩
    · rw [List.mem_singleton] at h
      rw [h, hP] at h3
      cases h3
  · rintro ⟨h1, h2⟩
    exact ⟨h1, fun ⟨h3, h4⟩ => h2 ⟨h3, List.mem_append_left _ h4⟩⟩
theorem PD.same {x y : Du} (D : PD lst m) (hx : x ∈ lst) (hy : y ∈ lst) (e : y.2 = x.2) : y = x := by
  obtain ⟨i, i1, i2⟩ := mem_nth.1 hx
  obtain ⟨j, j1, j2⟩ := mem_nth.1 hy
  have a := D.tie i i1
  have b := D.tie j j1
  rw [i2] at a
  rw [j2, e, a] at b
  have ij := Option.some.inj b
  rw [← i2, ← j2, ij]
theorem mem_cut {x : Du} {lst' : List Du} (D : PD lst m) (hP : P x = true) (hx : x ∈ lst) (M : ∀ y, y ∈ lst ↔ y ∈ l ∧ ¬ (P y = true ∧ y ∈ pre)) (M' : ∀ y, y ∈ lst' ↔ y ∈ lst ∧ y.2 ≠ x.2) :
    ∀ y, y ∈ lst' ↔ y ∈ l ∧ ¬ (P y = true ∧ y ∈ pre ++ [x]) := by
  intro y
  rw [M' y]
  constructor
  · rintro ⟨h1, h2⟩
    obtain ⟨h3, h4⟩ := (M y).1 h1
    refine ⟨h3, fun ⟨h5, h6⟩ => ?_⟩
    rcases List.mem_append.1 h6 with h | h
    · exact h4 ⟨h5, h⟩
    · rw [List.mem_singleton] at h
      exact h2 (by rw [h])
  · rintro ⟨h1, h2⟩
    have h3 : y ∈ lst := (M y).2 ⟨h1, fun ⟨h5, h6⟩ => h2 ⟨h5, List.mem_append_left _ h6⟩⟩
    refine ⟨h3, fun e => ?_⟩
    have := PD.same D hx h3 e
    subst this
    exact h2 ⟨hP, by simp⟩
/-- The one that is told now still stands. -/
theorem told_in {L : List Du} {x : Du} (S : SortOf L l) (hpre : pre ++ [x] <+: L) (M : ∀ y, y ∈ lst ↔ y ∈ l ∧ ¬ (P y = true ∧ y ∈ pre)) : x ∈ lst := by
  obtain ⟨t, ht⟩ := hpre
  refine (M x).2 ⟨(S.mem x).1 (by rw [← ht]; simp), fun ⟨_, h⟩ => ?_⟩
  have asc := S.asc
  rw [← ht, List.pairwise_append, List.pairwise_append] at asc
  have := asc.1.2.2 x h x (by simp)
  rw [lt_irr] at this
  cases this
end
end Go.Proofs.Ytaapdkjmlplhgaa
