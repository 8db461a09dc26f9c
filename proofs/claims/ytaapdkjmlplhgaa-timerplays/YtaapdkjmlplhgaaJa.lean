/- A pass over All that reads alone. -/
import Derived.Test.YtaapdkjmlplhgaaCa
import Derived.Test.YtaapdkjmlplhgaaNo
set_option linter.unusedSimpArgs false
set_option linter.unusedVariables false
namespace Go.Proofs.Ytaapdkjmlplhgaa
open Go.RowKit Go.Sort Go.Shelf

/-- What a pass keeps: its count alone is turned. -/
structure Ps (w X : World) (r b3 b4 b6 b7 bt d : Nat) (z6 : Int) (p : Nat → Prop) (pre : List Du) (A : World) : Prop where
  ch : Chg (fun k => k = b7) X A
  k3 : Bk A b3 27 [.pointer (some ⟨r, 0, none⟩)]
  k4 : Bk A b4 4 [.bool false]
  k6 : Bk A b6 3 [.int .i64 z6]
  k7 : Bk A b7 3 [.int .i64 pre.length]
  kt : Bk A bt 23 [.pointer (some ⟨d, 0, none⟩)]
  bel : Below w.heap.size w A
  p7 : ∀ b, p b → b ≠ b7
  lo : b6 ≠ b7 ∧ w.heap.size ≤ b7 ∧ b7 < X.heap.size ∧ w.heap.size ≤ X.heap.size
section
variable {w X A A' : World} {r b3 b4 b6 b7 bt d : Nat} {z6 : Int} {p : Nat → Prop} {pre : List Du}
theorem Ps.chg {q : Nat → Prop} (P : Ps w X r b3 b4 b6 b7 bt d z6 p pre A) (g : Chg q A A') (hq : ∀ k, q k → X.heap.size ≤ k) (nc : ∀ b t cs, Bk A b t cs → ¬ q b) : Ps w X r b3 b4 b6 b7 bt d z6 p pre A' := by
  have hl := P.lo
  exact ⟨P.ch.next g (fun j hj e => by have := hq j e; omega), P.k3.chg g (nc _ _ _ P.k3), P.k4.chg g (nc _ _ _ P.k4), P.k6.chg g (nc _ _ _ P.k6), P.k7.chg g (nc _ _ _ P.k7), P.kt.chg g (nc _ _ _ P.kt), P.bel.trans (g.below P.bel.size (fun k e => by have := hq k e; omega)), P.p7, hl⟩
theorem Ps.gr (P : Ps w X r b3 b4 b6 b7 bt d z6 p pre A) (g : Gr A A') : Ps w X r b3 b4 b6 b7 bt d z6 p pre A' := P.chg (q := fun _ => False) (Chg.of_gr g) (fun _ e => e.elim) (fun _ _ _ _ e => e)
theorem Ps.nop (P : Ps w X r b3 b4 b6 b7 bt d z6 p pre A) : Ps w X r b3 b4 b6 b7 bt d z6 (fun _ => False) pre A := ⟨P.ch, P.k3, P.k4, P.k6, P.k7, P.kt, P.bel, fun _ e => e.elim, P.lo⟩
theorem ps_con : Con X.heap.size (Ps w X r b3 b4 b6 b7 bt d z6) := by
  refine ⟨fun p s A A' row P hg hr => ?_, fun p s A b P hb => ?_, fun p q s A P hb => ?_⟩
  · refine P.chg (Chg.grownR hg) (fun k e => (hr k e).1) (fun b t cs k e => ?_)
    obtain ⟨o, h1, h2⟩ := (hr b e).2
    unfold Bk at k
    rw [k] at h1
    cases h1
    cases h2
  · refine ⟨P.ch, P.k3, P.k4, P.k6, P.k7, P.kt, P.bel, fun c hc => ?_, P.lo⟩
    rcases hc with hc | rfl
    · exact P.p7 c hc
    · have := P.k7.lt; omega
  · exact ⟨P.ch, P.k3, P.k4, P.k6, P.k7, P.kt, P.bel, fun c hc => P.p7 c (hb c hc), P.lo⟩
theorem Ps.store (P : Ps w X r b3 b4 b6 b7 bt d z6 p pre A) (x : Du) {n : Nat} (hn : n = pre.length) :
    Ps w X r b3 b4 b6 b7 bt d z6 p (pre ++ [x]) (A.setCell ⟨b7, 0, none⟩ (.int .i64 ((n : Int) + 1))) ∧ KeepsFrom X.heap.size A (A.setCell ⟨b7, 0, none⟩ (.int .i64 ((n : Int) + 1))) ∧ Kp p A (A.setCell ⟨b7, 0, none⟩ (.int .i64 ((n : Int) + 1))) := by
  subst hn
  have C : Chg (fun k => k = b7) A (A.setCell ⟨b7, 0, none⟩ (.int .i64 ((pre.length : Int) + 1))) := Chg.set (p := fun k => k = b7) A (a := ⟨b7, 0, none⟩) rfl _
  have ne : ∀ {b t : Nat} {cs : List Value}, Bk A b t cs → t ≠ 3 → ¬ b = b7 := fun k hn e => by rw [e] at k; exact hn (bk_ty k P.k7)
  have k7' := P.k7.set 0 (.int .i64 ((pre.length : Int) + 1))
  obtain ⟨K1, K2⟩ := set_keeps (X := X) (i := 0) P.k7 P.p7 (.int .i64 ((pre.length : Int) + 1))
  refine ⟨⟨P.ch.trans C, P.k3.chg C (ne P.k3 (by decide)), P.k4.chg C (ne P.k4 (by decide)), P.k6.chg C P.lo.1, ?_, P.kt.chg C (ne P.kt (by decide)), P.bel.trans (C.below P.bel.size (fun k e => by rw [e]; exact P.lo.2.1)), P.p7, P.lo⟩, K1, K2⟩
  have e : ((pre ++ [x]).length : Int) = (pre.length : Int) + 1 := by simp
  rw [e]
  exact k7'
end
/-- A round's beginning: what is told, in a cell of its own. -/
def AxD (tm : Array Value) (x : Du) (a' : Act) (A : World) : Prop := ∃ b8, Bk A b8 32 (dL x) ∧ a' = { tmps := (tm.setIfInBounds 18 (dV x)).setIfInBounds 8 (.pointer (some ⟨b8, 0, none⟩)), defers := [] }
/-- A loop that is left by its end or by a break. -/
theorem range_brk {n : Nat} {g : Operand} {ps : Array Tmp} {assign body : Code} {Q : Exit → Act → World → Prop} {a : Act} {w : World} {gf : Nat} {lb : Array Value} {L : List Du} {p0 : Nat → Prop}
    {I : (Nat → Prop) → List Du → World → Prop} {Ix : Code → List Du → World → Prop} (id : Nat)
    (hg : a.eval g = .func (.func gf) #[] lb) (eg : ∀ args w, (callFunc gf args).run Try.prog w = .ok (.enter gf args) w)
    (hseq : SeqO (n - 1) gf lb dE L p0 w) (O : Owes (n - 1 - 1) w a.tmps ps assign body dE L p0 I Ix (AxD a.tmps))
    (p : Nat → Prop) (hp0 : ∀ b, p0 b → p b) (hpw : ∀ b, p b → b < w.heap.size) (h0 : I p [] w) (R : World → Prop)
    (hI : ∀ q W, I q L W → R W) (hX : ∀ c pre W, Ix c pre W → c = .exit id ∧ R W) (hQ : ∀ a W, Q .normal a W → Q (.exit id) a W)
    (h : ∀ (D : Nat) (W : World), w.heap.size ≤ D → R W → W.heap[D]? = some (.deferred (some [])) → Q .normal { a with defers := { target := .collected D, args := #[] } :: a.defers } W) :
    (Code.rangeFunc g ps assign body).wpIn Fence.wide n Try.prog Q a w :=
  range_out hg eg hseq O p hp0 hpw h0 (fun D q W hD hI' _ hd => h D W hD (hI q W hI') hd) (fun D c pre W hD hpre hx hd => by
    obtain ⟨rfl, hR⟩ := hX c pre W hx
    exact wpIn_exit (hQ _ _ (h D W hD hR hd)))
end Go.Proofs.Ytaapdkjmlplhgaa
