/- Two Trees of the law's own, and the boxes that it was handed. -/
import Derived.Test.YtpikhdfndnpidaaTb
import Derived.Test.YtpikhdfndnpidaaTc
set_option linter.unusedSimpArgs false
set_option linter.unusedVariables false
namespace Go.Proofs.Ytpikhdfndnpidaa
open Go.RowKit Go.Sort Go.Shelf

theorem TreeIs.ch {w w' : World} {T T2 : Nat} {t : At} {l : List Value} (h : TreeIs w T2 t) (k : Bk w T 64 l) (g : w.grownBy w' (some T)) (ne : T2 ≠ T) : TreeIs w' T2 t :=
  ⟨h.blk.same (g.block T2 h.blk.lt (fun e => ne (by cases e; rfl))), h.tr.nk (fun b m hb => hb.same (g.block b hb.lt (fun e => hb.ne k (by decide) (by cases e; rfl)))), h.srt, h.bal, h.rg, h.few⟩
theorem TreeIs.below {w w' : World} {T : Nat} {t : At} (h : TreeIs w T t) (g : Below w.heap.size w w') : TreeIs w' T t :=
  ⟨h.blk.mono g h.blk.lt, h.tr.nk (fun b m hb => hb.mono g hb.lt), h.srt, h.bal, h.rg, h.few⟩
theorem BW.ch {w0 W W' : World} {T : Nat} (h : BW w0 W) (g : W.grownBy W' (some T)) (hT : w0.heap.size ≤ T) : BW w0 W' := below_grown h g (fun r e => by cases e; exact hT) h.size
structure Two (w0 W : World) (T1 T2 : Nat) (t1 t2 : At) : Prop where
  bw : BW w0 W
  one : TreeIs W T1 t1
  two : TreeIs W T2 t2
  lo1 : w0.heap.size ≤ T1
  lo2 : w0.heap.size ≤ T2
  ne : T1 ≠ T2
theorem Two.set1 {w0 W W' : World} {T1 T2 : Nat} {t1 t2 t : At} (h : Two w0 W T1 T2 t1 t2) (k : TreeIs W' T1 t) (g : W.grownBy W' (some T1)) : Two w0 W' T1 T2 t t2 :=
  ⟨h.bw.ch g h.lo1, k, h.two.ch h.one.blk g h.ne.symm, h.lo1, h.lo2, h.ne⟩
theorem Two.set2 {w0 W W' : World} {T1 T2 : Nat} {t1 t2 t : At} (h : Two w0 W T1 T2 t1 t2) (k : TreeIs W' T2 t) (g : W.grownBy W' (some T2)) : Two w0 W' T1 T2 t1 t :=
  ⟨h.bw.ch g h.lo2, h.one.ch h.two.blk g h.ne, k, h.lo1, h.lo2, h.ne⟩
theorem Two.gr {w0 W W' : World} {T1 T2 : Nat} {t1 t2 : At} (h : Two w0 W T1 T2 t1 t2) (g : Gr W W') : Two w0 W' T1 T2 t1 t2 :=
  ⟨h.bw.gr g, h.one.gr g, h.two.gr g, h.lo1, h.lo2, h.ne⟩
/-- Numbered boxes that a slice reads. -/
def Nums (w : World) (ao : Option Addr) (l : List E) : Prop := ∀ k x, l[k]? = some x → ∃ b off, ao = some ⟨b, off, none⟩ ∧
  w.cell? ⟨b, off + k * 5, none⟩ = some (.int .u32 x.1) ∧ w.cell? ⟨b, off + k * 5 + 1, none⟩ = some (.int .i32 x.2.1) ∧ w.cell? ⟨b, off + k * 5 + 2, none⟩ = some (.int .i32 x.2.2.1) ∧ w.cell? ⟨b, off + k * 5 + 3, none⟩ = some (.int .i32 x.2.2.2.1) ∧ w.cell? ⟨b, off + k * 5 + 4, none⟩ = some (.int .i32 x.2.2.2.2)
theorem Nums.below {w w' : World} {ao : Option Addr} {l : List E} (h : Nums w ao l) (g : BW w w') : Nums w' ao l := fun k x hx => by
  obtain ⟨b, off, e, h0, h1, h2, h3, h4⟩ := h k x hx
  exact ⟨b, off, e, below_cell h0 g, below_cell h1 g, below_cell h2 g, below_cell h3 g, below_cell h4 g⟩
/-- Whole numbers that a slice reads. -/
def Ints (w : World) (ao : Option Addr) (l : List Int) : Prop := ∀ k x, l[k]? = some x → ∃ b off, ao = some ⟨b, off, none⟩ ∧ w.cell? ⟨b, off + k, none⟩ = some (.int .i64 x)
theorem Ints.below {w w' : World} {ao : Option Addr} {l : List Int} (h : Ints w ao l) (g : BW w w') : Ints w' ao l := fun k x hx => by
  obtain ⟨b, off, e, h0⟩ := h k x hx
  exact ⟨b, off, e, below_cell h0 g⟩
theorem place_in {o n : Int} (hn : 0 < n) (hn3 : n ≤ 300) : wrap64 ((o.tmod n) + n) = o.tmod n + n ∧ 0 ≤ (o.tmod n + n).tmod n ∧ (o.tmod n + n).tmod n < n := by
  have h1 : o.tmod n < n := Int.tmod_lt_of_pos o hn
  have h2 : -n < o.tmod n := by
    have h3 := Int.tmod_lt_of_pos (-o) hn
    rw [Int.neg_tmod] at h3
    omega
  refine ⟨by unfold wrap64; omega, ?_, Int.tmod_lt_of_pos _ hn⟩
  exact Int.tmod_nonneg n (by omega)
/-- The numbers of the boxes that meet b. -/
def rngL (b : Q4) (A : List E) : List Int := (A.filter (fun x => meetQ x.2 b)).map (fun x => x.1)
theorem rngL_len (b : Q4) (A : List E) : (rngL b A).length ≤ A.length := by unfold rngL; rw [List.length_map]; exact List.length_filter_le _ _
theorem idL_tell (t : At) (b : Q4) : idL (t.tellN (fun q => meetQ q b)) = rngL b t.er.toL := by
  unfold idL rngL
  rw [← PT.tell_eq (fun q => meetQ q b) (fun p q h m => PT.has_meet h m), ← At.tellN_er, List.map_map]
  rfl
theorem told_tree (T : Nat) (t : At) (fv : Value) (b : Q4) (w : World) (hT : TreeIs w T t) (hI : ItR w (.pointer (some ⟨T, 0, none⟩)) b fv) :
    Calls Try.prog 18 #[fv, .int .i64 0] w fun e w' => ∃ u, e = .returned u ∧ Hid (Reads w' u (rngL b t.er.toL)) ∧ Below w.heap.size w w' := by
  have hl : (t.tellN (fun q => meetQ q b)).length ≤ 1000000 := by
    have h1 := congrArg List.length (idL_tell t b)
    have h2 := rngL_len b t.er.toL
    have h3 := hT.few
    simp only [idL, List.length_map] at h1
    omega
  refine (told_any _ fv b _ 0 w hI (.yes hT) hl).mono ?_
  rintro e w' ⟨u, rfl, h1, h2⟩
  have e0 : leftL 0 (t.tellN (fun q => meetQ q b)) = t.tellN (fun q => meetQ q b) := by unfold leftL; rw [if_neg]; omega
  rw [e0, idL_tell] at h1
  exact ⟨u, rfl, h1.reads, h2⟩
end Go.Proofs.Ytpikhdfndnpidaa
