/- What a call may change. -/
import Derived.Test.YtaapdkjmlplhgaaBa
namespace Go.Proofs.Ytaapdkjmlplhgaa
open Go.RowKit Go.Sort
/-- w' is w but for the blocks of p, and what lies behind. -/
structure Chg (p : Nat → Prop) (w w' : World) : Prop where
  os : w'.os = w.os
  tape : w'.tape = w.tape
  output : w'.output = w.output
  size : w.heap.size ≤ w'.heap.size
  block : ∀ k, k < w.heap.size → ¬ p k → w'.heap[k]? = w.heap[k]?
theorem Chg.refl (p : Nat → Prop) (w : World) : Chg p w w := ⟨rfl, rfl, rfl, Nat.le_refl _, fun _ _ _ => rfl⟩
theorem Chg.trans {p : Nat → Prop} {a b c : World} (h : Chg p a b) (k : Chg p b c) : Chg p a c :=
  ⟨k.os.trans h.os, k.tape.trans h.tape, k.output.trans h.output, Nat.le_trans h.size k.size, fun i hi hp => (k.block i (Nat.lt_of_lt_of_le hi h.size) hp).trans (h.block i hi hp)⟩
theorem Chg.of_gr {p : Nat → Prop} {w w' : World} (h : Gr w w') : Chg p w w' := ⟨h.below.os, h.below.tape, h.below.output, h.size, fun k hk _ => h.below.block k hk⟩
theorem Chg.of_below {p : Nat → Prop} {w w' : World} (h : Below w.heap.size w w') : Chg p w w' := ⟨h.os, h.tape, h.output, h.size, fun k hk _ => h.block k hk⟩
theorem Chg.gr {p : Nat → Prop} {w a b : World} (h : Chg p w a) (k : Gr a b) : Chg p w b := h.trans (.of_gr k)
theorem Chg.set {p : Nat → Prop} (w : World) {a : Addr} (ha : p a.block) (v : Value) : Chg p w (w.setCell a v) :=
  ⟨rfl, rfl, rfl, by simp [World.setCell], fun k hk hn => Below.heap_setCell _ _ _ _ (fun e => hn (by rw [e]; exact ha))⟩
theorem Chg.wide {p q : Nat → Prop} {w w' : World} (h : Chg p w w') (hq : ∀ k, k < w.heap.size → p k → q k) : Chg q w w' := ⟨h.os, h.tape, h.output, h.size, fun k hk hn => h.block k hk (fun e => hn (hq k hk e))⟩
theorem Chg.below {p : Nat → Prop} {w w' : World} {B : Nat} (h : Chg p w w') (hB : B ≤ w.heap.size) (hp : ∀ k, p k → B ≤ k) : Below B w w' := ⟨h.os, h.tape, h.output, h.size, fun k hk => h.block k (by omega) (fun e => by have := hp k e; omega)⟩
theorem Bk.chg {p : Nat → Prop} {w w' : World} {b : Nat} {t : TypeId} {l : List Value} (h : Bk w b t l) (c : Chg p w w') (hb : ¬ p b) : Bk w' b t l := h.same (c.block b h.lt hb)
theorem Chg.grown {w w' : World} {b : Nat} (h : w.grownBy w' (some b)) : Chg (fun k => k = b) w w' := ⟨h.os, h.tape, h.output, h.size, fun k hk hn => h.block k hk (fun e => hn (by cases e; rfl))⟩
theorem Chg.grown0 {w w' : World} (h : w.grownBy w' none) : Chg (fun _ => False) w w' := ⟨h.os, h.tape, h.output, h.size, fun k hk _ => h.block k hk (fun e => by cases e)⟩
theorem Chg.grownR {w w' : World} {r : Option Nat} (h : w.grownBy w' r) : Chg (fun k => r = some k) w w' := ⟨h.os, h.tape, h.output, h.size, fun k hk hn => h.block k hk (fun e => hn e.symm)⟩
/-- What a later call changes is new, or may be changed. -/
theorem Chg.next {p q : Nat → Prop} {w a b : World} (h : Chg q w a) (k : Chg p a b) (hp : ∀ j, j < w.heap.size → p j → q j) : Chg q w b :=
  ⟨k.os.trans h.os, k.tape.trans h.tape, k.output.trans h.output, Nat.le_trans h.size k.size, fun j hj hn => (k.block j (Nat.lt_of_lt_of_le hj h.size) (fun e => hn (hp j hj e))).trans (h.block j hj hn)⟩
end Go.Proofs.Ytaapdkjmlplhgaa
