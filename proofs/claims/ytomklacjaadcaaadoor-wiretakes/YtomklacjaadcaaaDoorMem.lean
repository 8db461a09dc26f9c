/- Rows of cells in one block; bytes in them; an append that finds room; lowest, number. -/
import Derived.Test.YtomklacjaadcaaaDoorCrc
import Derived.ArgAppend
import Derived.Laws.CopyOwn
import Derived.Laws.AppendOwnNone
import Derived.Laws.IdiomStrings
namespace Go.Proofs.YtomklacjaadcaaaDoor
open Go.RowKit Go.Sort

def Row (w : World) (g : Nat) (t : TypeId) (L : List Value) : Prop := w.heap[g]? = some (.cells L.toArray t (0, 0))
theorem Row.lt {w : World} {g t : Nat} {L : List Value} (h : Row w g t L) : g < w.heap.size := lt_of_block h
theorem Row.cell {w : World} {g t : Nat} {L : List Value} (h : Row w g t L) (i : Nat) : w.cell? ⟨g, i, none⟩ = L[i]? := by unfold Row at h; simp [World.cell?, h]
theorem Row.frozen {w : World} {g t : Nat} {L : List Value} (h : Row w g t L) (i : Nat) : w.frozen? ⟨g, i, none⟩ = false := by unfold Row at h; simp [World.frozen?, h]
theorem Row.set {w : World} {g t : Nat} {L : List Value} (h : Row w g t L) (i : Nat) (v : Value) : Row (w.setCell ⟨g, i, none⟩ v) g t (L.set i v) := by
  unfold Row at *
  simp [World.setCell, Array.getElem?_modify, h]
theorem Row.setOther {w : World} {g t : Nat} {L : List Value} (h : Row w g t L) {p : Addr} (hp : g ≠ p.block) (v : Value) : Row (w.setCell p v) g t L := by
  unfold Row at *
  simp [World.setCell, Array.getElem?_modify, Ne.symm hp, h]
theorem Row.new (w : World) (t : TypeId) (L : List Value) : Row (w.alloc (.cells L.toArray t)) w.heap.size t L := heap_alloc_new w _
theorem Row.alloc {w : World} {g t : Nat} {L : List Value} (h : Row w g t L) (o : Obj) : Row (w.alloc o) g t L := by
  unfold Row; rw [Below.heap_alloc w o g h.lt]; exact h
theorem Row.below {w w' : World} {g t B : Nat} {L : List Value} (h : Row w g t L) (k : Below B w w') (hb : g < B) : Row w' g t L := by
  unfold Row; rw [k.block g hb]; exact h
theorem Row.grown {w w' : World} {g t : Nat} {L : List Value} {row : Option Nat} (h : Row w g t L) (k : w.grownBy w' row) (hb : some g ≠ row) : Row w' g t L := by
  unfold Row; rw [k.block g h.lt hb]; exact h
theorem setCells_below {g : Nat} {B : Nat} (hb : B ≤ g) : ∀ (vs : List Value) (o : Nat) (a w : World), Below B a w → Below B a (w.setCells g o vs)
  | [], _, _, _, h => h
  | v :: r, o, a, _, h => setCells_below hb r (o + 1) a _ (h.setCell (p := ⟨g, o, none⟩) hb v)
theorem setC_all {g : Nat} : ∀ (vs : List Value) (o : Nat) (w : World), (w.setCells g o vs).os = w.os ∧ (w.setCells g o vs).tape = w.tape ∧ (w.setCells g o vs).output = w.output ∧ (w.setCells g o vs).heap.size = w.heap.size ∧ ∀ k, k ≠ g → (w.setCells g o vs).heap[k]? = w.heap[k]?
  | [], _, _ => ⟨rfl, rfl, rfl, rfl, fun _ _ => rfl⟩
  | v :: r, o, w => by
    obtain ⟨h1, h2, h3, h4, h5⟩ := setC_all (g := g) r (o + 1) (w.setCell ⟨g, o, none⟩ v)
    refine ⟨h1, h2, h3, h4.trans (by simp [World.setCell]), fun k hk => (h5 k hk).trans ?_⟩
    exact Below.heap_setCell w ⟨g, o, none⟩ v k hk
theorem setCells_grown {g : Nat} : ∀ (vs : List Value) (o : Nat) (w : World), w.grownBy (w.setCells g o vs) (some g) := fun vs o w =>
  let h := setC_all (g := g) vs o w
  ⟨h.1, h.2.1, h.2.2.1, Nat.le_of_eq h.2.2.2.1.symm, fun k _ hk => h.2.2.2.2 k (fun e => hk (by rw [e]))⟩
theorem grown_trans {a b c : World} {row : Option Nat} (h : a.grownBy b row) (k : b.grownBy c row) : a.grownBy c row :=
  ⟨k.os.trans h.os, k.tape.trans h.tape, k.output.trans h.output, Nat.le_trans h.size k.size, fun i hi hr => (k.block i (Nat.lt_of_lt_of_le hi h.size) hr).trans (h.block i hi hr)⟩
theorem grown_none {a b : World} (h : a.grownBy b none) (row : Option Nat) : a.grownBy b row := ⟨h.os, h.tape, h.output, h.size, fun i hi _ => h.block i hi (by simp)⟩
theorem grown_below {a b : World} (h : a.grownBy b none) : Below a.heap.size a b := ⟨h.os, h.tape, h.output, h.size, fun i hi => h.block i hi (by simp)⟩
theorem below_grown {a b : World} (h : Below a.heap.size a b) (row : Option Nat) : a.grownBy b row := ⟨h.os, h.tape, h.output, h.size, fun i hi _ => h.block i hi⟩
theorem grown_behind {w a b : World} {row : Option Nat} {B : Nat} (h : Below B w a) (k : a.grownBy b row) (hB : B ≤ a.heap.size) (hr : ∀ i, row = some i → B ≤ i) : Below B w b := h.grown k hB hr
theorem grown_new {w a b : World} {g : Nat} (h : w.grownBy a none) (k : a.grownBy b (some g)) (hg : w.heap.size ≤ g) : w.grownBy b none :=
  ⟨k.os.trans h.os, k.tape.trans h.tape, k.output.trans h.output, Nat.le_trans h.size k.size, fun i hi _ => (k.block i (Nat.lt_of_lt_of_le hi h.size) (by intro e; cases e; omega)).trans (h.block i hi (by simp))⟩
theorem By.grown {w w' : World} {ao : Option Addr} {l : List UInt8} {row : Option Nat} (h : By w ao l) (k : w.grownBy w' row) (hr : ∀ a, ao = some a → some a.block ≠ row) : By w' ao l := fun i hi => by
  obtain ⟨b, off, e, hc⟩ := h i hi
  exact ⟨b, off, e, k.cell hc (show some b ≠ row from hr _ e)⟩
theorem RemIs.grown {w w' : World} {row : Option Nat} (h : RemIs w) (k : w.grownBy w' row) (hr : some 1 ≠ row) : RemIs w' := fun i hi => k.cell (h i hi) hr
theorem RemIs.lt {w : World} (h : RemIs w) : 1 < w.heap.size := World.block_lt_of_cell? w ⟨1, 0, none⟩ (h 0 (by decide))
/-- Bytes as cells. -/
def bc (l : List UInt8) : List Value := l.map fun x => .int .u8 (x.toNat : Nat)
theorem bc_len (l : List UInt8) : (bc l).length = l.length := by simp [bc]
theorem bc_app (a b : List UInt8) : bc (a ++ b) = bc a ++ bc b := by simp [bc]
theorem bc_at {l : List UInt8} {i : Nat} (h : i < l.length) : (bc l)[i]? = some (.int .u8 ((l.getD i 0).toNat : Nat)) := by simp [bc, List.getD, h]
theorem bc_one {l : List UInt8} : ∀ u ∈ bc l, u.oneCell' = true := by
  intro u hu
  simp [bc] at hu
  obtain ⟨a, _, rfl⟩ := hu
  rfl
theorem length_splice' (L : List Value) (off : Nat) (cs : List Value) (h : off + cs.length ≤ L.length) : (splice L off cs).length = L.length := length_splice L off cs h
theorem splice_app (L : List Value) (o : Nat) (a b : List Value) (h : o + a.length + b.length ≤ L.length) : splice (splice L o a) (o + a.length) b = splice L o (a ++ b) := by
  unfold splice
  have h1 : (L.take o).length = o := by simp; omega
  have e1 : (L.take o ++ (a ++ L.drop (o + a.length))).take (o + a.length) = L.take o ++ a := by
    rw [← List.append_assoc, show o + a.length = (L.take o ++ a).length from by simp; omega, List.take_left]
  have e2 : (L.take o ++ (a ++ L.drop (o + a.length))).drop (o + a.length + b.length) = L.drop (o + (a ++ b).length) := by
    rw [← List.append_assoc, show o + a.length + b.length = (L.take o ++ a).length + b.length from by simp; omega, ← List.drop_drop, List.drop_left, List.drop_drop, List.length_append, Nat.add_assoc]
  rw [e1, e2]
  simp
theorem splice_at_in (L : List Value) (o : Nat) (a : List Value) (h : o + a.length ≤ L.length) (i : Nat) (hi : i < a.length) : (splice L o a)[o + i]? = a[i]? := by
  unfold splice
  rw [List.getElem?_append_right (by simp; omega)]
  have : o + i - (L.take o).length = i := by simp; omega
  rw [this, List.getElem?_append_left hi]
theorem splice_at_before (L : List Value) (o : Nat) (a : List Value) (h : o + a.length ≤ L.length) (i : Nat) (hi : i < o) : (splice L o a)[i]? = L[i]? := by
  unfold splice
  rw [List.getElem?_append_left (by simp; omega), List.getElem?_take]
  simp [hi]
theorem splice_at_behind (L : List Value) (o : Nat) (a : List Value) (h : o + a.length ≤ L.length) (i : Nat) (hi : o + a.length ≤ i) : (splice L o a)[i]? = L[i]? := by
  unfold splice
  rw [← List.append_assoc, List.getElem?_append_right (by simp; omega), List.getElem?_drop]
  congr 1
  simp
  omega
theorem splice_nil (L : List Value) (o : Nat) : splice L o [] = L := by simp [splice]
theorem splice_set (L : List Value) (o : Nat) (v : Value) (h : o < L.length) : L.set o v = splice L o [v] := by
  unfold splice
  rw [List.set_eq_take_append_cons_drop]
  simp [h]
theorem Row.setCells {g t : Nat} : ∀ (vs : List Value) (o : Nat) (w : World) (L : List Value), Row w g t L → o + vs.length ≤ L.length → Row (w.setCells g o vs) g t (splice L o vs)
  | [], o, w, L, h, _ => by rw [splice_nil]; exact h
  | v :: r, o, w, L, h, hl => by
    have hl' : o + (r.length + 1) ≤ L.length := by simpa using hl
    have h1 := Row.setCells r (o + 1) _ _ (h.set o v) (by simp; omega)
    rw [splice_set L o v (by omega)] at h1
    have := splice_app L o [v] r (by simp; omega)
    simp only [List.length_cons, List.length_nil, Nat.zero_add] at this
    rw [this] at h1
    exact h1
theorem Row.by {w : World} {g t : Nat} {L : List Value} (h : Row w g t L) (off : Nat) (l : List UInt8) (hl : ∀ i, i < l.length → L[off + i]? = some (.int .u8 ((l.getD i 0).toNat : Nat))) : By w (some ⟨g, off, none⟩) l := fun i hi =>
  ⟨g, off, rfl, by rw [h.cell]; exact hl i hi⟩
theorem By.src {w : World} {a : Addr} {l : List UInt8} (h : By w (some a) l) : ∀ j u, (bc l)[j]? = some u → w.cell? (a.add j) = some u := by
  intro j u hu
  have hj : j < l.length := by
    have := (List.getElem?_eq_some_iff.1 hu).1
    simpa [bc] using this
  obtain ⟨b, off, e, hc⟩ := h j hj
  cases e
  rw [Addr.add_lit, hc, ← hu, bc_at hj]
/-- An append that finds room. -/
theorem wpList_app_room {w : World} {ops : Array Oper} {rest : List Oper} {o : Oper} {a : Act} {Q : Exit → Act → World → Prop} (hgd : o.guard = none) (s x : Operand)
    (ho : o.op = .call { callee := .builtin .append, args := #[s, x], argTypes := #[31, 31] })
    (g off k cap : Nat) (t : TypeId) (L : List Value) (hg : Row w g t L) (hs : a.eval s = .slice (some ⟨g, off, none⟩) k cap) (ad : Addr) (m c : Nat) (news : List Value) (hx : a.eval x = .slice (some ad) m c) (hn : news.length = m)
    (hsrc : ∀ j u, news[j]? = some u → w.cell? (ad.add j) = some u) (h1 : ∀ u ∈ news, u.oneCell' = true) (hroom : k + m ≤ cap) (hfit : off + k + m ≤ L.length)
    (hK : ∀ w', Row w' g t (splice L (off + k) news) → w.grownBy w' (some g) → wpList Tryd.prog ops Q rest (a.put o.dst (.slice (some ⟨g, off, none⟩) (k + m) cap)) w') :
    wpList Tryd.prog ops Q (o :: rest) a w := by
  refine wpList_plain hgd fun K hK' => ?_
  obtain ⟨i, hi, _, hz, _⟩ := info_parts (P := Tryd.prog) (e := 5) (z := .int .u8 0) (size := 1) (bytes := 1) (by kernel_rfl)
  have hrun := run_append_room_cells (P := Tryd.prog) w 31 o.type 5 i Tryd.underlying31 hi g off k cap ad m c news (by rw [hz, hn]; omega) hsrc h1 hroom
    (fun j hj => by rw [hz, Nat.mul_one, hg.cell, List.getElem?_eq_getElem (by omega)]; rfl) (fun j hj => hg.frozen _)
  rw [hz, Nat.mul_one] at hrun
  unfold Oper.wp
  simp [execOp, ho, resolve, invoke, builtin, hs, hx, hrun, Result.andThen]
  exact hK' _ _ (hK _ (Row.setCells news (off + k) w L hg (by omega)) (setCells_grown news _ w))
end Go.Proofs.YtomklacjaadcaaaDoor
