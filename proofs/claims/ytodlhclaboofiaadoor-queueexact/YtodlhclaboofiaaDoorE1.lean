/- The law's two triples of rings, what it keeps of All. -/
import Derived.Test.YtodlhclaboofiaaDoorD6
set_option linter.unusedSimpArgs false
set_option linter.unusedVariables false
namespace Go.Proofs.YtodlhclaboofiaaDoor
open Go.RowKit Go.Sort

structure Ids where
  T1 : Nat
  B1 : Nat
  T2 : Nat
  B2 : Nat
  R : Nat
structure Sts where
  s1 : RS
  s2 : RS
  s3 : RS
  v : Value
  L : List Int
/-- The blocks of a triple. -/
abbrev Ids.p (d : Ids) : Nat → Prop := p5 d.T1 d.B1 d.T2 d.B2 d.R
abbrev S5 (w0 W : World) (d : Ids) (x : Sts) : Prop := St5 w0 W d.T1 d.B1 d.T2 d.B2 d.R x.s1 x.s2 x.s3 x.v x.L
/-- The blocks of p are cells of one of the types ts. -/
def Only (ts : List TypeId) (p : Nat → Prop) (W : World) : Prop := ∀ b, p b → b < W.heap.size → ∃ cur t f, W.heap[b]? = some (.cells cur t f) ∧ t ∈ ts
theorem Bk.only {ts : List TypeId} {p : Nat → Prop} {W W' : World} {b : Nat} {t : TypeId} {l : List Value} (h : Bk W b t l) (o : Only ts p W) (g : Chg p W W') (ht : t ∉ ts) : Bk W' b t l := by
  refine h.chg g (fun hp => ?_)
  obtain ⟨cur, t', f, h1, h2⟩ := o b hp h.lt
  unfold Bk at h
  rw [h] at h1
  cases h1
  exact ht h2
theorem Lst.only {ts : List TypeId} {p : Nat → Prop} {W W' : World} {v : Value} {L : List Int} (h : Lst W v L) (o : Only ts p W) (g : Chg p W W') (ht : (3 : TypeId) ∉ ts) : Lst W' v L := h.chg g (fun b cur hp hb => by
  obtain ⟨cur', t', f, h1, h2⟩ := o b hp (lt_of_block hb)
  rw [hb] at h1
  cases h1
  exact ht h2)
theorem own_only {ts : List TypeId} {p : Nat → Prop} {W W' : World} {base e size n : Nat} {v : Value} {xs : List Value} (h : W.ownsRow base e size v n xs) (o : Only ts p W) (g : Chg p W W') (ht : e ∉ ts) : W'.ownsRow base e size v n xs := by
  obtain ⟨hl, h⟩ := h
  refine ⟨hl, ?_⟩
  rcases h with h | ⟨b, cap, cur, e1, hb, hg, h2⟩
  · exact .inl h
  · refine .inr ⟨b, cap, cur, e1, hb, (g.block b (lt_of_block hg) (fun hp => ?_)).trans hg, h2⟩
    obtain ⟨cur', t', f, h3, h4⟩ := o b hp (lt_of_block hg)
    rw [hg] at h3
    cases h3
    exact ht h4
theorem S5.types {w0 W : World} {d : Ids} {x : Sts} (h : S5 w0 W d x) : Only [63, 9, 66, 38, 49] d.p W := by
  have t := h.tri
  rintro b (rfl | rfl | rfl | rfl | rfl) _
  · exact ⟨_, 63, _, t.p.blk, by simp⟩
  · exact ⟨_, 9, _, t.p.pls, by simp⟩
  · exact ⟨_, 66, _, t.q.blk, by simp⟩
  · exact ⟨_, 38, _, t.q.pls, by simp⟩
  · exact ⟨_, 49, _, t.r.blk, by simp⟩
theorem S5.gr {w0 W W' : World} {d : Ids} {x : Sts} (h : S5 w0 W d x) (g : Gr W W') : S5 w0 W' d x := ⟨h.tri.gr g, h.vals, h.tab0, h.bel.trans (g.below.mono h.bel.size), h.lo⟩
theorem S5.below {w0 W W' : World} {d : Ids} {x : Sts} (h : S5 w0 W d x) (g : Below W.heap.size W W') : S5 w0 W' d x := ⟨h.tri.below g, h.vals, h.tab0, h.bel.trans (g.mono h.bel.size), h.lo⟩
/-- A triple whose blocks are not touched. -/
theorem S5.far {w0 W W' : World} {d : Ids} {x : Sts} {p : Nat → Prop} (h : S5 w0 W d x) (g : Chg p W W') (hn : ∀ k, p k → ¬ d.p k) (hl : Lst W' x.v x.L) (hlo : ∀ k, p k → w0.heap.size ≤ k) : S5 w0 W' d x := by
  have t := h.tri
  refine ⟨⟨t.p.chg g (fun e => hn _ e (.inl rfl)) (fun e => hn _ e (.inr (.inl rfl))), t.q.chg g (fun e => hn _ e (.inr (.inr (.inl rfl)))) (fun e => hn _ e (.inr (.inr (.inr (.inl rfl))))), ⟨t.r.blk.chg g (fun e => hn _ e (.inr (.inr (.inr (.inr rfl))))), hl⟩, t.ok1, t.ok2, t.e2, t.e3⟩, h.vals, h.tab0, h.bel.trans (g.below h.bel.size hlo), h.lo⟩
theorem S5.plo {w0 W : World} {d : Ids} {x : Sts} (h : S5 w0 W d x) (k : Nat) (hk : d.p k) : w0.heap.size ≤ k := by
  have := h.lo
  rcases hk with rfl | rfl | rfl | rfl | rfl <;> omega
theorem S5.plt {w0 W : World} {d : Ids} {x : Sts} (h : S5 w0 W d x) (k : Nat) (hk : d.p k) : k < W.heap.size := by
  have t := h.tri
  rcases hk with rfl | rfl | rfl | rfl | rfl
  · exact t.p.lt.1
  · exact t.p.lt.2
  · exact t.q.lt.1
  · exact t.q.lt.2
  · exact t.r.blk.lt
theorem S5.len {w0 W : World} {d : Ids} {x : Sts} (h : S5 w0 W d x) : x.L.length ≤ 65536 := by
  rw [h.tri.ok1.cL]; have := h.tri.ok1.cn; have := h.tri.ok1.n2; omega
/-- What All was kept: the iterator's block, its list's, the slice and the list that it is to tell. -/
abbrev Kp4 := Nat × Nat × Value × List Int
def Kp4.f (x : Kp4) : Value := .func (.func 20) #[] #[.pointer (some ⟨x.1, 0, none⟩)]
def KpAll (S0 : Nat) (W : World) (ks : List Kp4) : Prop := ∀ x ∈ ks, sKept W x.1 x.2.1 x.2.2.2 ∧ Lst W x.2.2.1 x.2.2.2 ∧ Vals x.2.2.2 ∧ x.2.2.2.length ≤ 65536 ∧ S0 ≤ x.2.1
theorem KpAll.below {S0 : Nat} {W W' : World} {ks : List Kp4} (h : KpAll S0 W ks) (g : Below W.heap.size W W') : KpAll S0 W' ks := fun x hx => ⟨(h x hx).1.below g, (h x hx).2.1.below g, (h x hx).2.2⟩
theorem KpAll.app {S0 : Nat} {W : World} {ks : List Kp4} {y : Kp4} (h : KpAll S0 W ks) (hy : sKept W y.1 y.2.1 y.2.2.2 ∧ Lst W y.2.2.1 y.2.2.2 ∧ Vals y.2.2.2 ∧ y.2.2.2.length ≤ 65536 ∧ S0 ≤ y.2.1) : KpAll S0 W (ks ++ [y]) := fun x hx => by
  rcases List.mem_append.1 hx with h1 | h1
  · exact h x h1
  · rw [List.mem_singleton.1 h1]; exact hy
/-- A ring's change leaves what is kept. -/
theorem KpAll.ring {S0 : Nat} {w0 W W' : World} {d : Ids} {x : Sts} {ks : List Kp4} (h : KpAll S0 W ks) (k : S5 w0 W d x) (hB : d.B1 < S0) (g : Chg d.p W W') : KpAll S0 W' ks := fun y hy => by
  obtain ⟨h1, h2, h3⟩ := h y hy
  have t := k.tri
  refine ⟨⟨h1.cap.only k.types g (by decide), h1.row.chg g ?_⟩, h2.only k.types g (by decide), h3⟩
  rintro (e | e | e | e | e)
  · exact bk_ne h1.row t.p.blk (by decide) e
  · omega
  · exact bk_ne h1.row t.q.blk (by decide) e
  · exact bk_ne h1.row t.q.pls (by decide) e
  · exact bk_ne h1.row t.r.blk (by decide) e
/-- Another row's change, too. -/
theorem KpAll.row {S0 : Nat} {W W' : World} {p : Nat → Prop} {ks : List Kp4} (h : KpAll S0 W ks) (o : Only [51] p W) (g : Chg p W W') : KpAll S0 W' ks := fun y hy => by
  obtain ⟨h1, h2, h3⟩ := h y hy
  exact ⟨⟨h1.cap.only o g (by decide), h1.row.only o g (by decide)⟩, h2.only o g (by decide), h3⟩
def flatK (ks : List Kp4) : List Value := ks.flatMap fun x => [x.f, x.2.2.1]
/-- The law's two triples, and the arrays that lead to them. -/
structure Duo (w0 W : World) (bp bq br : Nat) (d0 d1 : Ids) (x0 x1 : Sts) : Prop where
  kp : Bk W bp 26 [.pointer (some ⟨d0.T1, 0, none⟩), .pointer (some ⟨d1.T1, 0, none⟩)]
  kq : Bk W bq 28 [.pointer (some ⟨d0.T2, 0, none⟩), .pointer (some ⟨d1.T2, 0, none⟩)]
  kr : Bk W br 30 [.pointer (some ⟨d0.R, 0, none⟩), .pointer (some ⟨d1.R, 0, none⟩)]
  a0 : S5 w0 W d0 x0
  a1 : S5 w0 W d1 x1
  dis : ∀ k, d0.p k → ¬ d1.p k
section
variable {w0 W W' : World} {bp bq br : Nat} {d0 d1 : Ids} {x0 x1 : Sts}
theorem Duo.below (h : Duo w0 W bp bq br d0 d1 x0 x1) (g : Below W.heap.size W W') : Duo w0 W' bp bq br d0 d1 x0 x1 := ⟨h.kp.mono g h.kp.lt, h.kq.mono g h.kq.lt, h.kr.mono g h.kr.lt, h.a0.below g, h.a1.below g, h.dis⟩
theorem Duo.gr (h : Duo w0 W bp bq br d0 d1 x0 x1) (g : Gr W W') : Duo w0 W' bp bq br d0 d1 x0 x1 := h.below g.below
/-- A row of another type changed. -/
theorem Duo.row {p : Nat → Prop} (h : Duo w0 W bp bq br d0 d1 x0 x1) (o : Only [51] p W) (g : Chg p W W') (hlo : ∀ k, p k → w0.heap.size ≤ k) : Duo w0 W' bp bq br d0 d1 x0 x1 := by
  have far : ∀ {d : Ids} {x : Sts}, S5 w0 W d x → S5 w0 W' d x := fun {d x} k => by
    refine S5.far k g (fun b hb hd => ?_) (k.tri.r.lst.only o g (by decide)) hlo
    obtain ⟨c1, t1, f1, e1, m1⟩ := o b hb (k.plt b hd)
    obtain ⟨c2, t2, f2, e2, m2⟩ := k.types b hd (k.plt b hd)
    rw [e1] at e2
    cases e2
    simp at m1
    rw [m1] at m2
    revert m2
    decide
  exact ⟨h.kp.only o g (by decide), h.kq.only o g (by decide), h.kr.only o g (by decide), far h.a0, far h.a1, h.dis⟩
theorem Duo.does0 (h : Duo w0 W bp bq br d0 d1 x0 x1) (k : DoesOk w0 W d0.T1 d0.B1 d0.T2 d0.B2 d0.R x0.s1 W') : ∃ x0', Duo w0 W' bp bq br d0 d1 x0' x1 ∧ x0'.s1.rf ≤ x0.s1.rf + 1 ∧ Chg d0.p W W' := by
  obtain ⟨s1, s2, s3, v, L, h1, h2, g⟩ := k
  have o := h.a0.types
  refine ⟨⟨s1, s2, s3, v, L⟩, ⟨h.kp.only o g (by decide), h.kq.only o g (by decide), h.kr.only o g (by decide), h1, S5.far h.a1 g h.dis (h.a1.tri.r.lst.only o g (by decide)) h.a0.plo, h.dis⟩, h2, g⟩
theorem Duo.does1 (h : Duo w0 W bp bq br d0 d1 x0 x1) (k : DoesOk w0 W d1.T1 d1.B1 d1.T2 d1.B2 d1.R x1.s1 W') : ∃ x1', Duo w0 W' bp bq br d0 d1 x0 x1' ∧ x1'.s1.rf ≤ x1.s1.rf + 1 ∧ Chg d1.p W W' := by
  obtain ⟨s1, s2, s3, v, L, h1, h2, g⟩ := k
  have o := h.a1.types
  refine ⟨⟨s1, s2, s3, v, L⟩, ⟨h.kp.only o g (by decide), h.kq.only o g (by decide), h.kr.only o g (by decide), S5.far h.a0 g (fun k h1 h2 => h.dis k h2 h1) (h.a0.tri.r.lst.only o g (by decide)) h.a1.plo, h1, h.dis⟩, h2, g⟩
end
/-- A number's last digit of two. -/
theorem and1 (Q : Int) : bits .and .i64 Q 1 = 0 ∨ bits .and .i64 Q 1 = 1 := by
  have h : (BitVec.ofInt 64 Q &&& BitVec.ofInt 64 1).toNat ≤ 1 := by rw [BitVec.toNat_and]; exact Nat.and_le_right
  have e : bits .and .i64 Q 1 = IntKind.i64.wrap ((BitVec.ofInt 64 Q &&& BitVec.ofInt 64 1).toNat : Int) := rfl
  rw [e]
  generalize (BitVec.ofInt 64 Q &&& BitVec.ofInt 64 1).toNat = n at h
  have : n = 0 ∨ n = 1 := by omega
  rcases this with rfl | rfl
  · exact .inl rfl
  · exact .inr rfl
end Go.Proofs.YtodlhclaboofiaaDoor
