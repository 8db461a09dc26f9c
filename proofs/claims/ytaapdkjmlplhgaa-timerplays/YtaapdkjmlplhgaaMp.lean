/- The map from what a due is of to its place. -/
import Derived.Test.YtaapdkjmlplhgaaCm
import Derived.Test.YtaapdkjmlplhgaaHp
import Derived.Maps.Own
import Derived.Maps.OwnOps
import Derived.Maps.OwnSet
import Derived.MapViews
import Derived.DeepKeys4
import Derived.OpenShut
import Derived.Lib.SmallJoins
set_option linter.unusedSimpArgs false
set_option linter.unusedVariables false
namespace Go.Proofs.Ytaapdkjmlplhgaa
open Go.RowKit Go.Sort Go.Shelf Go.ChangeShapes Go.WideShapes Go.Joins

theorem m_laid : laidOutB Try.prog = true := by kernel_rfl
theorem m_row : (57 : TypeId) < Try.prog.types.size := of_decide_eq_true (by kernel_rfl)
theorem m_deep : Try.prog.keyTypeAt (Try.prog.types.size + 1) 57 = true := by kernel_rfl
theorem m_wide : (match Try.prog.underlying 57 with | some (.array _ _) | some (.struct _) => true | _ => false) = true := by rw [Try.underlying57]
theorem m_cells : Try.prog.cellsOf 57 = 2 := by kernel_rfl
theorem m_cells30 : Try.prog.cellsOf 30 = 1 := by kernel_rfl
theorem m_law : Maps.Keyed Try.prog 57 := Maps.Keyed.of_law (deep_law_laid m_laid (m := 2) (by omega) m_row (by kernel_rfl) m_wide)
theorem m_formed (a b : Value) : (Value.agg #[a, b]).formed Try.prog 57 = true := by simp [Value.formed, Try.underlying57, m_cells]
theorem u32_wf {x : Int} (h : u32 x) : (Lit.int .u32 x).wf = true := by
  unfold u32 at h
  have e0 : IntKind.u32.min = 0 := rfl
  have e1 : IntKind.u32.max = 4294967295 := rfl
  simp [Lit.wf, e0, e1]
  omega
theorem wf_u32 {x : Int} (h : (Lit.int .u32 x).wf = true) : u32 x := by
  unfold u32
  have e0 : IntKind.u32.min = 0 := rfl
  have e1 : IntKind.u32.max = 4294967295 := rfl
  simp [Lit.wf, e0, e1] at h
  omega
/-- A key, as it is read. -/
def kl (k : Int × Int) : Lit := (DataW.agg [.lit (.int .u32 k.1), .lit (.int .u32 k.2)] : DataW Unit).asKey
abbrev kV (k : Int × Int) : Value := .agg #[.int .u32 k.1, .int .u32 k.2]
def okK (k : Int × Int) : Prop := u32 k.1 ∧ u32 k.2
set_option maxRecDepth 100000 in
theorem key_of {k : Int × Int} (h : okK k) : keyOf Try.prog 57 (kV k) = some (kl k) := by
  have w0 := u32_wf h.1
  have w1 := u32_wf h.2
  have ts := trod_struct_mk (enc := fun _ => ()) (w := default) (base := 0) (spare := fun _ => false) (held := false) (n := 1) (cs := [.int .u32 k.1, .int .u32 k.2])
    (xs := [(.lit (.int .u32 k.1), []), (.lit (.int .u32 k.2), [])]) Try.underlying57 (by simp [m_cells])
    (by simp [m_cells30, DataW.trod, Try.underlying30, w0, w1])
  exact (keyOf_asKey m_deep m_wide (m_formed _ _) (d := .agg [.lit (.int .u32 k.1), .lit (.int .u32 k.2)]) (ps := []) ⟨2, by simpa [Value.cells] using ts⟩).1
theorem kl_inj {k k' : Int × Int} (h : okK k) (h' : okK k') (e : kl k = kl k') : k = k' := by
  have := m_law.inj (key_of h) (e ▸ key_of h')
  simp only [Value.agg.injEq, Array.mk.injEq, List.cons.injEq, Value.int.injEq, true_and, and_true] at this
  exact Prod.ext this.1 this.2
theorem kl_key {k : Int × Int} (h : okK k) : WideAt.IsKeyLit (kl k) := m_law.key (key_of h)
theorem z3 (w : World) : (zeroValue 3).run Try.prog w = .ok (.int .i64 0) w := by kernel_rfl

/-- Block b holds the map m, of s entries. -/
def MapF (w : World) (b s : Nat) (m : Pf) : Prop :=
  ∃ D : DataW Unit, w.ownsMap Try.prog 57 (plainElem Try.prog 3) b s D ∧ Maps.size D = s ∧
    ∀ k, okK k → Maps.has D (kl k) = (m k).isSome ∧ ∀ i, m k = some i → ∀ z, D.atKey (kl k) z = .lit (.int .i64 i)
theorem exact_size {w : World} {b n : Nat} {D : DataW Unit} (h : w.ownsMap Try.prog 57 (plainElem Try.prog 3) b n D) : w.ownsMap Try.prog 57 (plainElem Try.prog 3) b (Maps.size D) D := by
  obtain ⟨es, clock, h1, h2, h3, rfl⟩ := h
  refine ⟨es, clock, h1, h2, ?_, rfl⟩
  show es.size ≤ (List.foldr DataW.insert [] _).length
  rw [Go.length_sorted]
  simp
theorem MapF.lt {w : World} {b s : Nat} {m : Pf} (h : MapF w b s m) : b < w.heap.size := by
  obtain ⟨D, h, _⟩ := h
  exact h.lt
theorem MapF.same {w w' : World} {b s : Nat} {m : Pf} (h : MapF w b s m) (e : w'.heap[b]? = w.heap[b]?) : MapF w' b s m := by
  obtain ⟨D, ⟨es, clock, h1, h2⟩, h3⟩ := h
  exact ⟨D, ⟨es, clock, e.trans h1, h2⟩, h3⟩
theorem MapF.isMap {w : World} {b s : Nat} {m : Pf} (h : MapF w b s m) : ∃ es c, w.heap[b]? = some (.map es c) := by
  obtain ⟨D, ⟨es, clock, h1, h2⟩, h3⟩ := h
  exact ⟨_, _, h1⟩
theorem MapF.made (w : World) : MapF (w.alloc (.map #[] 0)) w.heap.size 0 (fun _ => none) := by
  refine ⟨.map [], World.ownsMap_made _ _ _ _, rfl, fun k hk => ⟨rfl, fun i h => by cases h⟩⟩
theorem MapF.put {w w' : World} {b s n : Nat} {m : Pf} {k : Int × Int} (hk : okK k) {i : Nat} {D : DataW Unit} (hD : w.ownsMap Try.prog 57 (plainElem Try.prog 3) b s D) (hs : Maps.size D = s)
    (hm : ∀ k, okK k → Maps.has D (kl k) = (m k).isSome ∧ ∀ i, m k = some i → ∀ z, D.atKey (kl k) z = .lit (.int .i64 i))
    (h : w'.ownsMap Try.prog 57 (plainElem Try.prog 3) b n (D.put (kl k) (.lit (.int .i64 i)))) : MapF w' b (if (m k).isSome then s else s + 1) (upd m k (some i)) := by
  have T := hD.tidy m_law
  have hsz : Maps.size (D.put (kl k) (.lit (.int .i64 i))) = if (m k).isSome then s else s + 1 := by
    rw [Maps.size_put T, (hm k hk).1, hs]
  refine ⟨D.put (kl k) (.lit (.int .i64 i)), hsz ▸ exact_size h, hsz, fun k' hk' => ?_⟩
  by_cases e : k' = k
  · subst e
    simp only [upd, if_true, Option.isSome_some, Option.some.injEq]
    exact ⟨Maps.has_put_same T.isMap (kl_key hk) _, fun j hj z => by subst hj; exact Maps.atKey_put_same T.isMap (kl_key hk) _ _⟩
  · have ne : kl k' ≠ kl k := fun h => e (kl_inj hk' hk h)
    simp only [upd, e, if_false]
    rw [Maps.has_put_other ne]
    exact ⟨(hm k' hk').1, fun j hj z => by rw [Maps.atKey_put_other ne]; exact (hm k' hk').2 j hj z⟩
theorem MapF.del {w w' : World} {b s n : Nat} {m : Pf} {k : Int × Int} (hk : okK k) {D : DataW Unit} (hD : w.ownsMap Try.prog 57 (plainElem Try.prog 3) b s D) (hs : Maps.size D = s)
    (hm : ∀ k, okK k → Maps.has D (kl k) = (m k).isSome ∧ ∀ i, m k = some i → ∀ z, D.atKey (kl k) z = .lit (.int .i64 i))
    (h : w'.ownsMap Try.prog 57 (plainElem Try.prog 3) b n (D.del (kl k))) : MapF w' b (if (m k).isSome then s - 1 else s) (upd m k none) := by
  have T := hD.tidy m_law
  have hsz : Maps.size (D.del (kl k)) = if (m k).isSome then s - 1 else s := by
    have := Maps.size_del (k := kl k) T
    rw [(hm k hk).1, hs] at this
    split at this <;> simp_all <;> omega
  refine ⟨D.del (kl k), hsz ▸ exact_size h, hsz, fun k' hk' => ?_⟩
  by_cases e : k' = k
  · subst e
    simp only [upd, if_true]
    exact ⟨Maps.has_del_same, fun j hj z => by cases hj⟩
  · have ne : kl k' ≠ kl k := fun h => e (kl_inj hk' hk h)
    simp only [upd, e, if_false]
    rw [Maps.has_del_other ne]
    exact ⟨(hm k' hk').1, fun j hj z => by rw [Maps.atKey_del_other ne]; exact (hm k' hk').2 j hj z⟩
end Go.Proofs.Ytaapdkjmlplhgaa
