/- The law's beginning: its rings laid. -/
import Derived.Test.YtodlhclaboofiaaDoorE1
set_option linter.unusedSimpArgs false
set_option linter.unusedVariables false
namespace Go.Proofs.YtodlhclaboofiaaDoor
open Go.RowKit Go.Sort

theorem Tri.only {p : Nat → Prop} {w w' : World} {T1 B1 T2 B2 R : Nat} {s1 s2 s3 : RS} {v : Value} {L : List Int} (h : Tri w T1 B1 T2 B2 R s1 s2 s3 v L) (o : Only [26, 28, 30] p w) (g : Chg p w w') : Tri w' T1 B1 T2 B2 R s1 s2 s3 v L :=
  ⟨⟨h.p.blk.only o g (by decide), h.p.pls.only o g (by decide), h.p.ne⟩, ⟨h.q.blk.only o g (by decide), h.q.pls.only o g (by decide), h.q.ne⟩, ⟨h.r.blk.only o g (by decide), h.r.lst.only o g (by decide)⟩, h.ok1, h.ok2, h.e2, h.e3⟩
theorem S5.only {p : Nat → Prop} {w0 w w' : World} {d : Ids} {x : Sts} (h : S5 w0 w d x) (o : Only [26, 28, 30] p w) (g : Chg p w w') (hlo : ∀ k, p k → w0.heap.size ≤ k) : S5 w0 w' d x :=
  ⟨h.tri.only o g, h.vals, h.tab0, h.bel.trans (g.below h.bel.size hlo), h.lo⟩
/-- What New makes, three times. -/
def Sts.made (n : Nat) : Sts := ⟨RS.made n, RS.made n, RS.made n, .slice none 0 0, []⟩
theorem made_tri {w : World} {T1 B1 T2 B2 R n : Nat} (h1 : 1 ≤ n) (h2 : n ≤ 65536) (p : sIs w T1 B1 (RS.made n)) (q : pIs w T2 B2 (RS.made n)) (r : RefIs w R (RS.made n) (.slice none 0 0) []) : Tri w T1 B1 T2 B2 R (RS.made n) (RS.made n) (RS.made n) (.slice none 0 0) [] :=
  ⟨p, q, r, RS.made_ok n h1 h2, RS.made_ok n h1 h2, ⟨rfl, rfl, rfl, rfl, rfl, rfl⟩, ⟨rfl, rfl, rfl, rfl, rfl, rfl⟩⟩
abbrev ptrV (b : Nat) : Value := .pointer (some ⟨b, 0, none⟩)
/-- The three arrays. -/
structure Arr (w wr : World) (b2 bp bq br : Nat) (p0 p1 : Int) (a0 a1 b0 b1 c0 c1 : Value) : Prop where
  k2 : Bk wr b2 22 [.int .i64 p0, .int .i64 p1]
  kp : Bk wr bp 26 [a0, a1]
  kq : Bk wr bq 28 [b0, b1]
  kr : Bk wr br 30 [c0, c1]
  bel : Below w.heap.size w wr
  lo : w.heap.size ≤ bp ∧ w.heap.size ≤ bq ∧ w.heap.size ≤ br
theorem Arr.gr {w wr wr' : World} {b2 bp bq br : Nat} {p0 p1 : Int} {a0 a1 b0 b1 c0 c1 : Value} (h : Arr w wr b2 bp bq br p0 p1 a0 a1 b0 b1 c0 c1) (g : Gr wr wr') : Arr w wr' b2 bp bq br p0 p1 a0 a1 b0 b1 c0 c1 := ⟨h.k2.gr g, h.kp.gr g, h.kq.gr g, h.kr.gr g, h.bel.trans (g.below.mono h.bel.size), h.lo⟩
def aB (bp bq br : Nat) : Nat → Prop := fun k => k = bp ∨ k = bq ∨ k = br
theorem Arr.types {w wr : World} {b2 bp bq br : Nat} {p0 p1 : Int} {a0 a1 b0 b1 c0 c1 : Value} (h : Arr w wr b2 bp bq br p0 p1 a0 a1 b0 b1 c0 c1) : Only [26, 28, 30] (aB bp bq br) wr := by
  rintro b (rfl | rfl | rfl) _
  · exact ⟨_, 26, _, h.kp, by simp⟩
  · exact ⟨_, 28, _, h.kq, by simp⟩
  · exact ⟨_, 30, _, h.kr, by simp⟩
theorem Arr.hlo {w wr : World} {b2 bp bq br : Nat} {p0 p1 : Int} {a0 a1 b0 b1 c0 c1 : Value} (h : Arr w wr b2 bp bq br p0 p1 a0 a1 b0 b1 c0 c1) (k : Nat) (hk : aB bp bq br k) : w.heap.size ≤ k := by
  have := h.lo
  rcases hk with rfl | rfl | rfl <;> omega
theorem Arr.setr {w wr : World} {b2 bp bq br : Nat} {p0 p1 : Int} {a0 a1 b0 b1 c0 c1 : Value} (h : Arr w wr b2 bp bq br p0 p1 a0 a1 b0 b1 c0 c1) (i : Nat) (z : Value) : Arr w (wr.setCell ⟨br, i, none⟩ z) b2 bp bq br p0 p1 a0 a1 b0 b1 (if i = 0 then z else c0) (if i = 1 then z else c1) := by
  have hk := h.kr.set i z
  refine ⟨h.k2.other (a := ⟨br, i, none⟩) (bk_ne h.k2 h.kr (by decide)) _, h.kp.other (a := ⟨br, i, none⟩) (bk_ne h.kp h.kr (by decide)) _, h.kq.other (a := ⟨br, i, none⟩) (bk_ne h.kq h.kr (by decide)) _, ?_, h.bel.setCell (p := ⟨br, i, none⟩) h.lo.2.2 _, h.lo⟩
  match i, hk with
  | 0, hk => simpa using hk
  | 1, hk => simpa using hk
  | i + 2, hk => simpa using hk
theorem Arr.setp {w wr : World} {b2 bp bq br : Nat} {p0 p1 : Int} {a0 a1 b0 b1 c0 c1 : Value} (h : Arr w wr b2 bp bq br p0 p1 a0 a1 b0 b1 c0 c1) (i : Nat) (z : Value) : Arr w (wr.setCell ⟨bp, i, none⟩ z) b2 bp bq br p0 p1 (if i = 0 then z else a0) (if i = 1 then z else a1) b0 b1 c0 c1 := by
  have hk := h.kp.set i z
  refine ⟨h.k2.other (a := ⟨bp, i, none⟩) (bk_ne h.k2 h.kp (by decide)) _, ?_, h.kq.other (a := ⟨bp, i, none⟩) (bk_ne h.kq h.kp (by decide)) _, h.kr.other (a := ⟨bp, i, none⟩) (bk_ne h.kr h.kp (by decide)) _, h.bel.setCell (p := ⟨bp, i, none⟩) h.lo.1 _, h.lo⟩
  match i, hk with
  | 0, hk => simpa using hk
  | 1, hk => simpa using hk
  | i + 2, hk => simpa using hk
theorem Arr.setq {w wr : World} {b2 bp bq br : Nat} {p0 p1 : Int} {a0 a1 b0 b1 c0 c1 : Value} (h : Arr w wr b2 bp bq br p0 p1 a0 a1 b0 b1 c0 c1) (i : Nat) (z : Value) : Arr w (wr.setCell ⟨bq, i, none⟩ z) b2 bp bq br p0 p1 a0 a1 (if i = 0 then z else b0) (if i = 1 then z else b1) c0 c1 := by
  have hk := h.kq.set i z
  refine ⟨h.k2.other (a := ⟨bq, i, none⟩) (bk_ne h.k2 h.kq (by decide)) _, h.kp.other (a := ⟨bq, i, none⟩) (bk_ne h.kp h.kq (by decide)) _, ?_, h.kr.other (a := ⟨bq, i, none⟩) (bk_ne h.kr h.kq (by decide)) _, h.bel.setCell (p := ⟨bq, i, none⟩) h.lo.2.1 _, h.lo⟩
  match i, hk with
  | 0, hk => simpa using hk
  | 1, hk => simpa using hk
  | i + 2, hk => simpa using hk
/-- What stands when k triples are laid. -/
def Lay (w wr : World) (b2 bp bq br : Nat) (p0 p1 : Int) : Nat → Prop
  | 0 => Arr w wr b2 bp bq br p0 p1 (.pointer none) (.pointer none) (.pointer none) (.pointer none) (.pointer none) (.pointer none)
  | 1 => ∃ d0 x0, Arr w wr b2 bp bq br p0 p1 (ptrV d0.T1) (.pointer none) (ptrV d0.T2) (.pointer none) (ptrV d0.R) (.pointer none) ∧ S5 w wr d0 x0 ∧ x0.s1.rf = 0
  | _ => ∃ d0 d1 x0 x1, Duo w wr bp bq br d0 d1 x0 x1 ∧ x0.s1.rf = 0 ∧ x1.s1.rf = 0 ∧ Below w.heap.size w wr ∧ w.heap.size ≤ bp ∧ w.heap.size ≤ bq ∧ w.heap.size ≤ br
/-- Steps that a slice reads. -/
abbrev Stp := Int × Int × Int × Int
abbrev Stp.l (x : Stp) : List Value := stL x.1 x.2.1 x.2.2.1 x.2.2.2
def Steps (w : World) (ao : Option Addr) (l : List Stp) : Prop := ∀ k x, l[k]? = some x → ∃ b off, ao = some ⟨b, off, none⟩ ∧ ∀ j u, (Stp.l x)[j]? = some u → w.cell? ⟨b, off + k * 4 + j, none⟩ = some u
theorem Steps.below {w w' : World} {ao : Option Addr} {l : List Stp} (h : Steps w ao l) (g : Below w.heap.size w w') : Steps w' ao l := fun k x hx => by
  obtain ⟨b, off, e, h0⟩ := h k x hx
  exact ⟨b, off, e, fun j u hu => below_cell (h0 j u hu) g⟩
end Go.Proofs.YtodlhclaboofiaaDoor
