/- A ring in memory: its block, its places, what they hold going round. -/
import Derived.Test.YtodlhclaboofiaaDoorBa
set_option linter.unusedSimpArgs false
set_option linter.unusedVariables false
namespace Go.Proofs.YtodlhclaboofiaaDoor
open Go.RowKit Go.Sort

/-- w' is w but for the blocks of p, and what lies behind. -/
structure Chg (p : Nat → Prop) (w w' : World) : Prop where
  os : w'.os = w.os
  tape : w'.tape = w.tape
  output : w'.output = w.output
  size : w.heap.size ≤ w'.heap.size
  block : ∀ k, k < w.heap.size → ¬ p k → w'.heap[k]? = w.heap[k]?
theorem Chg.refl (p : Nat → Prop) (w : World) : Chg p w w := ⟨rfl, rfl, rfl, Nat.le_refl _, fun _ _ _ => rfl⟩
theorem Chg.trans {p : Nat → Prop} {a b c : World} (h : Chg p a b) (k : Chg p b c) : Chg p a c :=
  ⟨k.os.trans h.os, k.tape.trans h.tape, k.output.trans h.output, Nat.le_trans h.size k.size, fun i hi hp => (k.block i (Nat.lt_of_lt_of_le hi h.size) hp).trans (h.block i hi hp)⟩
theorem Chg.of_gr {p : Nat → Prop} {w w' : World} (h : Gr w w') : Chg p w w' := ⟨h.below.os, h.below.tape, h.below.output, h.size, fun k hk _ => h.below.block k hk⟩
theorem Chg.of_below {p : Nat → Prop} {w w' : World} (h : Below w.heap.size w w') : Chg p w w' := ⟨h.os, h.tape, h.output, h.size, fun k hk _ => h.block k hk⟩
theorem Chg.gr {p : Nat → Prop} {w a b : World} (h : Chg p w a) (k : Gr a b) : Chg p w b := h.trans (.of_gr k)
theorem Chg.set {p : Nat → Prop} (w : World) {a : Addr} (ha : p a.block) (v : Value) : Chg p w (w.setCell a v) :=
  ⟨rfl, rfl, rfl, by simp [World.setCell], fun k hk hn => Below.heap_setCell _ _ _ _ (fun e => hn (by rw [e]; exact ha))⟩
theorem Chg.wide {p q : Nat → Prop} {w w' : World} (h : Chg p w w') (hq : ∀ k, k < w.heap.size → p k → q k) : Chg q w w' := ⟨h.os, h.tape, h.output, h.size, fun k hk hn => h.block k hk (fun e => hn (hq k hk e))⟩
theorem Chg.below {p : Nat → Prop} {w w' : World} {B : Nat} (h : Chg p w w') (hB : B ≤ w.heap.size) (hp : ∀ k, p k → B ≤ k) : Below B w w' := ⟨h.os, h.tape, h.output, h.size, fun k hk => h.block k (by omega) (fun e => by have := hp k e; omega)⟩
theorem Bk.chg {p : Nat → Prop} {w w' : World} {b : Nat} {t : TypeId} {l : List Value} (h : Bk w b t l) (c : Chg p w w') (hb : ¬ p b) : Bk w' b t l := h.same (c.block b h.lt hb)
/-- Two blocks. -/
abbrev tw (T B : Nat) : Nat → Prop := fun k => k = T ∨ k = B

/-! ### Rows of elements -/
theorem flat_len {enc : Int → List Value} {k : Nat} (hk : ∀ v, (enc v).length = k) (es : List Int) : (es.flatMap enc).length = es.length * k := by
  induction es with
  | nil => simp
  | cons e es ih => rw [List.flatMap_cons, List.length_append, ih, hk, List.length_cons, Nat.succ_mul]; omega
theorem flat_at {enc : Int → List Value} {k : Nat} (hk : ∀ v, (enc v).length = k) : ∀ (es : List Int) (i j : Nat) (v : Int), es[i]? = some v → j < k → (es.flatMap enc)[i * k + j]? = (enc v)[j]?
  | [], i, j, v, h, _ => by simp at h
  | e :: es, 0, j, v, h, hj => by
    simp only [List.getElem?_cons_zero, Option.some.injEq] at h
    subst h
    rw [List.flatMap_cons, Nat.zero_mul, Nat.zero_add, List.getElem?_append_left (by rw [hk]; exact hj)]
  | e :: es, i + 1, j, v, h, hj => by
    rw [List.flatMap_cons, List.getElem?_append_right (by rw [hk, Nat.succ_mul]; omega), hk]
    have := flat_at hk es i j v (by simpa using h) hj
    rw [show (i + 1) * k + j - k = i * k + j by rw [Nat.succ_mul]; omega]
    exact this
theorem flat_set1 {enc : Int → List Value} {g : Int → Value} (hg : ∀ v, enc v = [g v]) : ∀ (es : List Int) (i : Nat) (v : Int), (es.set i v).flatMap enc = (es.flatMap enc).set i (g v)
  | [], i, v => by simp
  | e :: es, 0, v => by simp [hg]
  | e :: es, i + 1, v => by
    rw [List.set_cons_succ, List.flatMap_cons, List.flatMap_cons, flat_set1 hg es i v, hg, List.singleton_append, List.singleton_append, List.set_cons_succ]
theorem flat_set2 {enc : Int → List Value} {g h : Int → Value} (hg : ∀ v, enc v = [g v, h v]) : ∀ (es : List Int) (i : Nat) (v : Int), (es.set i v).flatMap enc = ((es.flatMap enc).set (i * 2) (g v)).set (i * 2 + 1) (h v)
  | [], i, v => by simp
  | e :: es, 0, v => by simp [hg]
  | e :: es, i + 1, v => by
    rw [List.set_cons_succ, List.flatMap_cons, List.flatMap_cons, flat_set2 hg es i v, hg, show (i + 1) * 2 = i * 2 + 1 + 1 by omega]
    simp only [List.cons_append, List.nil_append, List.set_cons_succ]
theorem made_flat {enc : Int → List Value} {z : Array Value} (hz : z.toList = enc 0) (n : Nat) : (List.replicate n (0 : Int)).flatMap enc = (List.replicate n z.toList).flatten := by
  induction n with
  | zero => simp
  | succ n ih => rw [List.replicate_succ, List.flatMap_cons, ih, List.replicate_succ, List.flatten_cons, hz]

/-! ### Going round -/
/-- Where the value of place m stands. -/
def at_ (n f m : Nat) : Nat := (f + m) % n
theorem at_lt {n f m : Nat} (h : 1 ≤ n) : at_ n f m < n := Nat.mod_lt _ (by omega)
theorem at_eq {n f m : Nat} (hf : f < n) (hm : m ≤ n) : at_ n f m = if f + m < n then f + m else f + m - n := by
  unfold at_
  split
  · exact Nat.mod_eq_of_lt ‹_›
  · rw [Nat.mod_eq_sub_mod (by omega), Nat.mod_eq_of_lt (by omega)]
theorem at_inj {n f a b : Nat} (hf : f < n) (ha : a < n) (hb : b < n) (h : at_ n f a = at_ n f b) : a = b := by
  rw [at_eq hf (by omega), at_eq hf (by omega)] at h
  split at h <;> split at h <;> omega
theorem at_next {n f m : Nat} (hn : 1 ≤ n) : at_ n (at_ n f 1) m = at_ n f (m + 1) := by
  unfold at_
  rw [Nat.add_mod, Nat.mod_mod, ← Nat.add_mod]
  congr 1
  omega

/-- A ring, apart from memory: as many places, where the first one stands, how many values, the marks, the books, the places. -/
structure RS where
  n : Nat
  f : Nat
  c : Nat
  low : Int
  high : Int
  pr : Bool
  pk : Nat
  rf : Nat
  es : List Int
/-- It holds just the values L. -/
structure RS.Ok (s : RS) (L : List Int) : Prop where
  n1 : 1 ≤ s.n
  n2 : s.n ≤ 65536
  fn : s.f < s.n
  len : s.es.length = s.n
  cL : L.length = s.c
  cn : s.c ≤ s.n
  has : ∀ i v, L[i]? = some v → s.es[at_ s.n s.f i]? = some v
  pk1 : s.c ≤ s.pk
  pk2 : s.pk ≤ s.n
  rf2 : s.rf < 9000000000000000000
  m0 : 0 ≤ s.low
  m1 : 0 ≤ s.high
  m2 : s.high ≤ s.n
  m3 : s.high = 0 → s.pr = false
  m4 : s.high ≠ 0 → s.low < s.high
  m5 : s.high ≠ 0 → s.high ≤ s.c → s.pr = true
  m6 : s.high ≠ 0 → (s.c : Int) ≤ s.low → s.pr = false

/-- The ring in block T, its places in block B. -/
structure RingIs (enc : Int → List Value) (ty te : TypeId) (w : World) (T B : Nat) (s : RS) : Prop where
  blk : Bk w T ty [.slice (some ⟨B, 0, none⟩) s.n s.n, .int .i64 (s.f : Int), .int .i64 (s.c : Int), .int .i64 s.low, .int .i64 s.high, .bool s.pr, .int .i64 (s.pk : Int), .int .i64 (s.rf : Int)]
  pls : Bk w B te (s.es.flatMap enc)
  ne : T ≠ B
section
variable {enc : Int → List Value} {ty te : TypeId} {w w' : World} {T B : Nat} {s : RS}
theorem RingIs.gr (h : RingIs enc ty te w T B s) (g : Gr w w') : RingIs enc ty te w' T B s := ⟨h.blk.gr g, h.pls.gr g, h.ne⟩
theorem RingIs.below (h : RingIs enc ty te w T B s) (g : Below w.heap.size w w') : RingIs enc ty te w' T B s := ⟨h.blk.mono g h.blk.lt, h.pls.mono g h.pls.lt, h.ne⟩
theorem RingIs.chg {p : Nat → Prop} (h : RingIs enc ty te w T B s) (g : Chg p w w') (h1 : ¬ p T) (h2 : ¬ p B) : RingIs enc ty te w' T B s := ⟨h.blk.chg g h1, h.pls.chg g h2, h.ne⟩
theorem RingIs.c0 (h : RingIs enc ty te w T B s) : w.cell? ⟨T, 0, none⟩ = some (.slice (some ⟨B, 0, none⟩) s.n s.n) := h.blk.at 0
theorem RingIs.c1 (h : RingIs enc ty te w T B s) : w.cell? ⟨T, 1, none⟩ = some (.int .i64 (s.f : Int)) := h.blk.at 1
theorem RingIs.c2 (h : RingIs enc ty te w T B s) : w.cell? ⟨T, 2, none⟩ = some (.int .i64 (s.c : Int)) := h.blk.at 2
theorem RingIs.c3 (h : RingIs enc ty te w T B s) : w.cell? ⟨T, 3, none⟩ = some (.int .i64 s.low) := h.blk.at 3
theorem RingIs.c4 (h : RingIs enc ty te w T B s) : w.cell? ⟨T, 4, none⟩ = some (.int .i64 s.high) := h.blk.at 4
theorem RingIs.c5 (h : RingIs enc ty te w T B s) : w.cell? ⟨T, 5, none⟩ = some (.bool s.pr) := h.blk.at 5
theorem RingIs.c6 (h : RingIs enc ty te w T B s) : w.cell? ⟨T, 6, none⟩ = some (.int .i64 (s.pk : Int)) := h.blk.at 6
theorem RingIs.c7 (h : RingIs enc ty te w T B s) : w.cell? ⟨T, 7, none⟩ = some (.int .i64 (s.rf : Int)) := h.blk.at 7
theorem RingIs.fz (h : RingIs enc ty te w T B s) (i : Nat) : w.frozen? ⟨T, i, none⟩ = false := h.blk.frozen i
theorem RingIs.fzB (h : RingIs enc ty te w T B s) (i : Nat) : w.frozen? ⟨B, i, none⟩ = false := h.pls.frozen i
theorem RingIs.lt (h : RingIs enc ty te w T B s) : T < w.heap.size ∧ B < w.heap.size := ⟨h.blk.lt, h.pls.lt⟩
theorem RingIs.el (h : RingIs enc ty te w T B s) {k : Nat} (hk : ∀ v, (enc v).length = k) {i j : Nat} {v : Int} (hi : s.es[i]? = some v) (hj : j < k) : w.cell? ⟨B, i * k + j, none⟩ = (enc v)[j]? := (h.pls.at _).trans (flat_at hk _ _ _ _ hi hj)
/-- A number of the books turned. -/
theorem RingIs.setf (h : RingIs enc ty te w T B s) (x : Nat) : RingIs enc ty te (w.setCell ⟨T, 1, none⟩ (.int .i64 (x : Int))) T B { s with f := x } := ⟨h.blk.set 1 _, h.pls.other h.ne.symm _, h.ne⟩
theorem RingIs.setc (h : RingIs enc ty te w T B s) (x : Nat) : RingIs enc ty te (w.setCell ⟨T, 2, none⟩ (.int .i64 (x : Int))) T B { s with c := x } := ⟨h.blk.set 2 _, h.pls.other h.ne.symm _, h.ne⟩
theorem RingIs.setlow (h : RingIs enc ty te w T B s) (x : Int) : RingIs enc ty te (w.setCell ⟨T, 3, none⟩ (.int .i64 x)) T B { s with low := x } := ⟨h.blk.set 3 _, h.pls.other h.ne.symm _, h.ne⟩
theorem RingIs.sethigh (h : RingIs enc ty te w T B s) (x : Int) : RingIs enc ty te (w.setCell ⟨T, 4, none⟩ (.int .i64 x)) T B { s with high := x } := ⟨h.blk.set 4 _, h.pls.other h.ne.symm _, h.ne⟩
theorem RingIs.setpr (h : RingIs enc ty te w T B s) (x : Bool) : RingIs enc ty te (w.setCell ⟨T, 5, none⟩ (.bool x)) T B { s with pr := x } := ⟨h.blk.set 5 _, h.pls.other h.ne.symm _, h.ne⟩
theorem RingIs.setpk (h : RingIs enc ty te w T B s) (x : Nat) : RingIs enc ty te (w.setCell ⟨T, 6, none⟩ (.int .i64 (x : Int))) T B { s with pk := x } := ⟨h.blk.set 6 _, h.pls.other h.ne.symm _, h.ne⟩
theorem RingIs.setrf (h : RingIs enc ty te w T B s) (x : Nat) : RingIs enc ty te (w.setCell ⟨T, 7, none⟩ (.int .i64 (x : Int))) T B { s with rf := x } := ⟨h.blk.set 7 _, h.pls.other h.ne.symm _, h.ne⟩
theorem RingIs.sete1 {g : Int → Value} (hg : ∀ v, enc v = [g v]) (h : RingIs enc ty te w T B s) (i : Nat) (v : Int) : RingIs enc ty te (w.setCell ⟨B, i, none⟩ (g v)) T B { s with es := s.es.set i v } := ⟨h.blk.other h.ne _, by rw [show ({ s with es := s.es.set i v } : RS).es = s.es.set i v from rfl, flat_set1 hg]; exact h.pls.set i _, h.ne⟩
theorem RingIs.sete2 {g k : Int → Value} (hg : ∀ v, enc v = [g v, k v]) (h : RingIs enc ty te w T B s) (i : Nat) (v : Int) : RingIs enc ty te ((w.setCell ⟨B, i * 2, none⟩ (g v)).setCell ⟨B, i * 2 + 1, none⟩ (k v)) T B { s with es := s.es.set i v } :=
  ⟨(h.blk.other h.ne _).other h.ne _, by rw [show ({ s with es := s.es.set i v } : RS).es = s.es.set i v from rfl, flat_set2 hg]; exact (h.pls.set _ _).set _ _, h.ne⟩
end

/-- Is it pressed behind a call that changed how many there are? -/
def prOf (high low : Int) (pr : Bool) (c : Nat) : Bool := if high = 0 then pr else if high ≤ (c : Int) then true else if (c : Int) ≤ low then false else pr
/-! ### What the calls make of a ring -/
/-- The marks held against how many there are. -/
def RS.press (s : RS) : RS := { s with pr := if s.high = 0 then s.pr else if s.high ≤ s.c then true else if (s.c : Int) ≤ s.low then false else s.pr }
def RS.shed (s : RS) : RS := { s with es := s.es.set s.f 0, f := at_ s.n s.f 1, c := s.c - 1 }
/-- All but the marks' bool. -/
structure RS.Pre (s : RS) (L : List Int) : Prop where
  n1 : 1 ≤ s.n
  n2 : s.n ≤ 65536
  fn : s.f < s.n
  len : s.es.length = s.n
  cL : L.length = s.c
  cn : s.c ≤ s.n
  has : ∀ i v, L[i]? = some v → s.es[at_ s.n s.f i]? = some v
  pk1 : s.c ≤ s.pk
  pk2 : s.pk ≤ s.n
  rf2 : s.rf < 9000000000000000000
  m0 : 0 ≤ s.low
  m1 : 0 ≤ s.high
  m2 : s.high ≤ s.n
  m3 : s.high = 0 → s.pr = false
  m4 : s.high ≠ 0 → s.low < s.high
theorem RS.Ok.pre {s : RS} {L : List Int} (h : s.Ok L) : s.Pre L := ⟨h.n1, h.n2, h.fn, h.len, h.cL, h.cn, h.has, h.pk1, h.pk2, h.rf2, h.m0, h.m1, h.m2, h.m3, h.m4⟩
theorem RS.Pre.press {s : RS} {L : List Int} (h : s.Pre L) : s.press.Ok L := by
  refine ⟨h.n1, h.n2, h.fn, h.len, h.cL, h.cn, h.has, h.pk1, h.pk2, h.rf2, h.m0, h.m1, h.m2, ?_, h.m4, ?_, ?_⟩
  · intro e
    have e' : s.high = 0 := e
    show (if s.high = 0 then s.pr else _) = false
    rw [if_pos e']
    exact h.m3 e'
  · intro e h1
    have e' : ¬ s.high = 0 := e
    have h1' : s.high ≤ s.c := h1
    show (if s.high = 0 then s.pr else if s.high ≤ s.c then true else _) = true
    rw [if_neg e', if_pos h1']
  · intro e h1
    have e' : ¬ s.high = 0 := e
    have h1' : (s.c : Int) ≤ s.low := h1
    have := h.m4 e'
    show (if s.high = 0 then s.pr else if s.high ≤ s.c then true else if (s.c : Int) ≤ s.low then false else s.pr) = false
    rw [if_neg e', if_neg (by omega), if_pos h1']
theorem press_0 (s : RS) (h : s.high = 0) : s.press = s := by unfold RS.press; rw [if_pos h]
theorem press_1 (s : RS) (h : ¬ s.high = 0) (h1 : s.high ≤ s.c) : s.press = { s with pr := true } := by unfold RS.press; rw [if_neg h, if_pos h1]
theorem press_2 (s : RS) (h : ¬ s.high = 0) (h1 : ¬ s.high ≤ s.c) (h2 : (s.c : Int) ≤ s.low) : s.press = { s with pr := false } := by unfold RS.press; rw [if_neg h, if_neg h1, if_pos h2]
theorem press_3 (s : RS) (h1 : ¬ s.high ≤ s.c) (h2 : ¬ (s.c : Int) ≤ s.low) : s.press = s := by
  unfold RS.press
  by_cases h : s.high = 0
  · rw [if_pos h]
  · rw [if_neg h, if_neg h1, if_neg h2]
theorem RS.Ok.press_id {s : RS} {L : List Int} (h : s.Ok L) : s.press = s := by
  have : (if s.high = 0 then s.pr else if s.high ≤ s.c then true else if (s.c : Int) ≤ s.low then false else s.pr) = s.pr := by
    split
    · rfl
    · rename_i e
      split
      · exact (h.m5 e ‹_›).symm
      · split
        · exact (h.m6 e ‹_›).symm
        · rfl
  unfold RS.press
  rw [this]
theorem RS.Pre.shed {s : RS} {v : Int} {L : List Int} (h : s.Pre (v :: L)) : s.shed.Pre L := by
  have hc : L.length + 1 = s.c := by simpa using h.cL
  refine ⟨h.n1, h.n2, at_lt h.n1, by simpa [RS.shed] using h.len, by show L.length = s.c - 1; omega, by show s.c - 1 ≤ s.n; have := h.cn; omega, ?_, by show s.c - 1 ≤ s.pk; have := h.pk1; omega, h.pk2, h.rf2, h.m0, h.m1, h.m2, h.m3, h.m4⟩
  intro i x hx
  show (s.es.set s.f 0)[at_ s.n (at_ s.n s.f 1) i]? = some x
  have hi := (List.getElem?_eq_some_iff.1 hx).1
  have hcn := h.cn
  rw [at_next h.n1, List.getElem?_set_ne]
  · exact h.has (i + 1) x (by simpa using hx)
  · intro e
    have e2 : at_ s.n s.f 0 = at_ s.n s.f (i + 1) := by rw [← e, at_eq h.fn (by omega), if_pos (by have := h.fn; omega)]; rfl
    have := at_inj h.fn (by omega) (by omega) e2
    omega
theorem RS.Pre.refused {s : RS} {L : List Int} (h : s.Pre L) (hr : s.rf + 1 < 9000000000000000000) : ({ s with rf := s.rf + 1 } : RS).Pre L := ⟨h.n1, h.n2, h.fn, h.len, h.cL, h.cn, h.has, h.pk1, h.pk2, hr, h.m0, h.m1, h.m2, h.m3, h.m4⟩
theorem RS.Ok.refused {s : RS} {L : List Int} (h : s.Ok L) (hr : s.rf + 1 < 9000000000000000000) : ({ s with rf := s.rf + 1 } : RS).Ok L := ⟨h.n1, h.n2, h.fn, h.len, h.cL, h.cn, h.has, h.pk1, h.pk2, hr, h.m0, h.m1, h.m2, h.m3, h.m4, h.m5, h.m6⟩
/-- A value behind the others. -/
def RS.push (s : RS) (v : Int) : RS := { s with es := s.es.set (at_ s.n s.f s.c) v, c := s.c + 1, pk := max s.pk (s.c + 1) }
theorem RS.Pre.push {s : RS} {L : List Int} (h : s.Pre L) (v : Int) (hc : s.c < s.n) : (s.push v).Pre (L ++ [v]) := by
  refine ⟨h.n1, h.n2, h.fn, by simpa [RS.push] using h.len, by simp [RS.push, h.cL], by show s.c + 1 ≤ s.n; omega, ?_, by show s.c + 1 ≤ max s.pk (s.c + 1); omega, by show max s.pk (s.c + 1) ≤ s.n; have := h.pk2; omega, h.rf2, h.m0, h.m1, h.m2, h.m3, h.m4⟩
  intro i x hx
  show (s.es.set (at_ s.n s.f s.c) v)[at_ s.n s.f i]? = some x
  have hcL := h.cL
  by_cases e : i < L.length
  · rw [List.getElem?_append_left e] at hx
    rw [List.getElem?_set_ne (fun e2 => by have := at_inj h.fn (by omega) (by omega) e2; omega)]
    exact h.has i x hx
  · have hi := (List.getElem?_eq_some_iff.1 hx).1
    simp at hi
    obtain rfl : i = s.c := by omega
    rw [← hcL] at hx
    simp at hx
    subst hx
    rw [List.getElem?_set_self (by rw [h.len]; exact at_lt h.n1)]
theorem RS.Pre.at {s : RS} {L : List Int} (h : s.Pre L) {i : Nat} (hi : i < s.c) : ∃ v, L[i]? = some v ∧ s.es[at_ s.n s.f i]? = some v :=
  ⟨L[i]'(by rw [h.cL]; exact hi), List.getElem?_eq_getElem _, h.has i _ (List.getElem?_eq_getElem _)⟩
/-- Set. -/
theorem RS.Ok.put {s : RS} {L : List Int} (h : s.Ok L) (i : Nat) (v : Int) (hi : i < s.c) : ({ s with es := s.es.set (at_ s.n s.f i) v } : RS).Ok (L.set i v) := by
  refine ⟨h.n1, h.n2, h.fn, by simpa using h.len, by simpa using h.cL, h.cn, ?_, h.pk1, h.pk2, h.rf2, h.m0, h.m1, h.m2, h.m3, h.m4, h.m5, h.m6⟩
  intro j x hx
  have hj := (List.getElem?_eq_some_iff.1 hx).1
  rw [List.length_set, h.cL] at hj
  have hcn := h.cn
  show (s.es.set (at_ s.n s.f i) v)[at_ s.n s.f j]? = some x
  by_cases e : i = j
  · subst e
    rw [List.getElem?_set_self (by rw [h.cL]; exact hi)] at hx
    cases hx
    rw [List.getElem?_set_self (by rw [h.len]; exact at_lt h.n1)]
  · rw [List.getElem?_set_ne e] at hx
    rw [List.getElem?_set_ne (fun e2 => e (at_inj h.fn (by omega) (by omega) e2))]
    exact h.has j x hx
/-- Cut: the places ahead moved by one, t of them done. -/
structure Moved (s : RS) (i t : Nat) (es : List Int) : Prop where
  len : es.length = s.n
  get : ∀ m, m < s.n → es[at_ s.n s.f m]? = if i - t < m ∧ m ≤ i then s.es[at_ s.n s.f (m - 1)]? else s.es[at_ s.n s.f m]?
theorem Moved.zero {s : RS} {L : List Int} (h : s.Pre L) (i : Nat) : Moved s i 0 s.es := ⟨h.len, fun m hm => by rw [if_neg (by omega)]⟩
theorem Moved.step {s : RS} {L : List Int} (h : s.Pre L) {i t : Nat} {es : List Int} (k : Moved s i t es) (hi : i < s.c) (ht : t < i) {v : Int} (hv : es[at_ s.n s.f (i - t - 1)]? = some v) : Moved s i (t + 1) (es.set (at_ s.n s.f (i - t)) v) := by
  have hcn := h.cn
  refine ⟨by simpa using k.len, fun m hm => ?_⟩
  by_cases e : m = i - t
  · subst e
    rw [List.getElem?_set_self (by rw [k.len]; exact at_lt h.n1), if_pos (by omega), ← hv, k.get _ (by omega), if_neg (by omega)]
  · rw [List.getElem?_set_ne (fun e2 => e (at_inj h.fn (by omega) hm e2).symm), k.get m hm]
    by_cases e2 : i - t < m ∧ m ≤ i
    · rw [if_pos e2, if_pos (by omega)]
    · rw [if_neg e2, if_neg (by omega)]
theorem Moved.some {s : RS} {L : List Int} (h : s.Pre L) {i t : Nat} {es : List Int} (k : Moved s i t es) (m : Nat) : ∃ v, es[at_ s.n s.f m]? = .some v :=
  ⟨_, List.getElem?_eq_getElem (by rw [k.len]; exact at_lt h.n1)⟩
theorem Moved.pre {s : RS} {L : List Int} (h : s.Pre L) {i : Nat} {es : List Int} (k : Moved s i i es) (hi : i < s.c) : ∃ x, ({ s with es := es } : RS).Pre (x :: L.eraseIdx i) := by
  have hcn := h.cn
  have hcL := h.cL
  obtain ⟨x, hx⟩ := k.some h 0
  refine ⟨x, h.n1, h.n2, h.fn, k.len, ?_, h.cn, ?_, h.pk1, h.pk2, h.rf2, h.m0, h.m1, h.m2, h.m3, h.m4⟩
  · show (x :: L.eraseIdx i).length = s.c
    rw [List.length_cons, List.length_eraseIdx, if_pos (by omega)]
    omega
  · intro j y hy
    show es[at_ s.n s.f j]? = Option.some y
    cases j with
    | zero =>
      simp at hy
      subst hy
      exact hx
    | succ j =>
      simp only [List.getElem?_cons_succ] at hy
      have hj := (List.getElem?_eq_some_iff.1 hy).1
      rw [List.length_eraseIdx, if_pos (by omega)] at hj
      rw [k.get _ (by omega)]
      rw [List.getElem?_eraseIdx] at hy
      by_cases e : j < i
      · rw [if_pos e] at hy
        rw [if_pos (by omega)]
        exact h.has j y hy
      · rw [if_neg e] at hy
        rw [if_neg (by omega)]
        exact h.has (j + 1) y hy
/-- What New makes. -/
def RS.made (n : Nat) : RS := ⟨n, 0, 0, 0, 0, false, 0, 0, List.replicate n 0⟩
theorem RS.made_ok (n : Nat) (h1 : 1 ≤ n) (h2 : n ≤ 65536) : (RS.made n).Ok [] := by
  refine ⟨h1, h2, by show 0 < n; omega, by simp [RS.made], rfl, Nat.zero_le _, fun i v h => by simp at h, Nat.le_refl _, Nat.zero_le _, by show 0 < _; omega, Int.le_refl _, Int.le_refl _, by show (0 : Int) ≤ (n : Int); omega, fun _ => rfl, fun h => absurd rfl h, fun h => absurd rfl h, fun h => absurd rfl h⟩
theorem RS.Ok.pr_id {s : RS} {L : List Int} (h : s.Ok L) : prOf s.high s.low s.pr s.c = s.pr := by
  have := congrArg RS.pr h.press_id
  exact this
end Go.Proofs.YtodlhclaboofiaaDoor
