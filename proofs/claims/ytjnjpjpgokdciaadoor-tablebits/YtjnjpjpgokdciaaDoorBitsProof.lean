/- TableBits, proved: for every three bounds and every list of calls the law returns true: three sets beside one another answer every call as the document's own lists of truths do, a walk that was taken ahead tells what there was then, nil and zero sets answer as they should; the arguments read afterwards as they read before. Conditions: the listed package-level variable math/bits.deBruijn64tab holds what the program's text lays (the card ties it to the pruned copy of the project that the seat holds; it says nothing of code outside it). -/
import Derived.Test.YtjnjpjpgokdciaaDoorYb
import Derived.Test.YtjnjpjpgokdciaaDoorCards
import Derived.Test.YtjnjpjpgokdciaaDoorTie
import Derived.ProofKit
import Derived.OpenShut
import Derived.Lib.SmallJoins
import Derived.Lib.LaidTab
import Derived.Deep.Slices
import Derived.Lay
import Derived.Stop.Joined
import Derived.Stop.LaidErr
import Derived.SevenTiedAt
import Derived.SizedLaws
import Derived.Carry
namespace Go.Proofs.YtjnjpjpgokdciaaDoor
open Go.ChangeShapes Go.WideShapes Go.ChangeAt Go.RowKit Go.Joins

theorem own : ownKnob Tryd.prog.godebug = none := by kernel_rfl
theorem laidOut : laidOutB Tryd.prog = true := by kernel_rfl
theorem Tryd.cells3 : Tryd.prog.cellsOf 3 = 1 := by kernel_rfl
theorem Tryd.cells70 : Tryd.prog.cellsOf 70 = 3 := by kernel_rfl
theorem Tryd.cells86 : Tryd.prog.cellsOf 86 = 4 := by kernel_rfl
theorem Tryd.bytes86 : Tryd.prog.bytesOf 86 = 32 := by kernel_rfl
theorem Tryd.cells5 : Tryd.prog.cellsOf 5 = 1 := by kernel_rfl
theorem Tryd.cells131 : Tryd.prog.cellsOf 131 = 64 := by kernel_rfl
theorem tab_of_tabIs {W : World} (h : Lib.TabIs Tryd.prog W "math/bits.deBruijn64tab" .u8 (Lib.deBruijn64tab.map (fun n : Nat => (n : Int)))) : Tab W := fun j hj => by
  have := h.cell (show Tryd.prog.globalNamed "math/bits.deBruijn64tab" = some 0 by kernel_rfl) j (by simpa using hj)
  rw [this]
  simp [List.getD, hj]
theorem tab_of_laid {W : World} (h : laidMetH Tryd.prog Rows.tableBitsRow.laid W) : Tab W := by
  rw [MakeChecks.laidMetH_plain _ _ _ (by kernel_rfl)] at h
  exact tab_of_tabIs (Lib.tabIs_of_head (zs := Lib.deBruijn64tab.map (fun n : Nat => (n : Int))) (show Tryd.prog.globalNamed "math/bits.deBruijn64tab" = some 0 by kernel_rfl) (show (Tryd.prog.globals[0]?).map (·.type) = some 131 by kernel_rfl) Tryd.underlying131 Tryd.underlying5 Tryd.cells5 Tryd.cells131 h)
theorem wf_i64 {a : Int} (h : (Lit.int .i64 a).wf = true) : in64 a := by
  unfold in64
  simpa [Lit.wf, IntKind.min, IntKind.max, IntKind.signed, IntKind.bits] using h
theorem okWide_array {P : Program} {w : World} {r : Reach} {base : Nat} {t : TypeId} {v : Value} {n : Nat} {e : TypeId} (ht : P.underlying t = some (.array n e)) (h : Value.okWide P w r base t v) : ∃ cs, v = .agg cs ∧ cs.size = P.cellsOf t := by
  simp only [Value.okWide, ht] at h
  obtain ⟨cs, h1, h2, _⟩ := h
  exact ⟨cs, h1, h2⟩
theorem add_none (b off k : Nat) : (⟨b, off, none⟩ : Addr).add k = ⟨b, off + k, none⟩ := by unfold Addr.add; split <;> simp_all
theorem arr3 {α : Type} {c : Array α} (h : c.size = 3) : ∃ x y z, c = #[x, y, z] := by
  obtain ⟨l⟩ := c
  match l, h with
  | [x, y, z], _ => exact ⟨x, y, z, rfl⟩
section
variable {H : Type} {enc : TypeId × Value → H} {w : World} {base : Nat} {spare : Nat → Bool} {held : Bool}
set_option maxRecDepth 100000 in
theorem trod_ct {fuel : Nat} {cs : List Value} {z : DataW H × List MemPlace} (h : DataW.trod enc Tryd.prog w base spare held fuel 86 cs = some z) :
    ∃ a b c d, cs = sL a b c d ∧ in64 b ∧ in64 c ∧ in64 d := by
  obtain ⟨xs, n, _, hx, hlen, hl, hi⟩ := DataW.trod_struct Tryd.underlying86 h
  have hl' : xs.length = 4 := hl
  have hc : cs.length = 4 := hlen.trans Tryd.cells86
  match cs, hc with
  | [c0, c1, c2, c3], _ =>
    match xs, hl' with
    | [y0, y1, y2, y3], _ =>
      have h0 := hi 0 _ rfl
      have h1 := hi 1 _ rfl
      have h2 := hi 2 _ rfl
      have h3 := hi 3 _ rfl
      simp [Tryd.cells3] at h0 h1 h2 h3
      obtain ⟨a, e0, rfl, w0⟩ := DataW.trod_int Tryd.underlying3 h0
      obtain ⟨b, e1, rfl, w1⟩ := DataW.trod_int Tryd.underlying3 h1
      obtain ⟨c, e2, rfl, w2⟩ := DataW.trod_int Tryd.underlying3 h2
      obtain ⟨d, e3, rfl, w3⟩ := DataW.trod_int Tryd.underlying3 h3
      simp only [List.cons.injEq, and_true] at e0 e1 e2 e3
      subst e0 e1 e2 e3
      exact ⟨a, b, c, d, rfl, wf_i64 w1, wf_i64 w2, wf_i64 w3⟩
set_option maxRecDepth 100000 in
theorem open_three {r : Reach} {b0 : Nat} {v : Value} {d : DataW H} {p : List MemPlace} (hv : Value.okWide Tryd.prog w r b0 70 v) (h : DataW.Trod enc Tryd.prog w base spare held 70 v d p) :
    ∃ a b c, v = .agg #[.int .i64 a, .int .i64 b, .int .i64 c] := by
  obtain ⟨cs, rfl, hsz⟩ := okWide_array Tryd.underlying70 hv
  obtain ⟨c0, c1, c2, rfl⟩ := arr3 (hsz.trans Tryd.cells70)
  obtain ⟨fuel, hf⟩ := h
  obtain ⟨xs, m, _, hx, _, hl, hi⟩ := DataW.trod_array Tryd.underlying70 hf
  match xs, hl with
  | [y0, y1, y2], _ =>
  have h0 := hi 0 (by decide)
  have h1 := hi 1 (by decide)
  have h2 := hi 2 (by decide)
  simp [Value.cells, Tryd.cells3] at h0 h1 h2
  obtain ⟨a, e0, rfl, w0⟩ := DataW.trod_int Tryd.underlying3 h0
  obtain ⟨b, e1, rfl, w1⟩ := DataW.trod_int Tryd.underlying3 h1
  obtain ⟨c, e2, rfl, w2⟩ := DataW.trod_int Tryd.underlying3 h2
  simp only [List.cons.injEq, and_true] at e0 e1 e2
  subst e0 e1 e2
  exact ⟨a, b, c, rfl⟩
set_option maxRecDepth 100000 in
theorem open_cts {fuel : Nat} {a0 : Option Addr} {len cap : Nat} {z : DataW H × List MemPlace} (hf : DataW.trod enc Tryd.prog w base spare held fuel 71 (Value.slice a0 len cap).cells.toList = some z) :
    ∃ l : List Ct, l.length = len ∧ Sts w a0 l ∧ (∀ x ∈ l, in64 x.2.1 ∧ in64 x.2.2.1 ∧ in64 x.2.2.2) ∧ (len = 0 ∨ ∃ es sp, z.1 = .slice es sp ∧ es.length = len) := by
  rcases Go.Deep.open_slice Tryd.underlying71 hf with ⟨hcs, hx⟩ | ⟨a, len', cap', m, n, D, Pl, hcs, _, hl, hm, hmm, hx, hc⟩
  · simp [Value.cells] at hcs
    obtain ⟨rfl, rfl, rfl⟩ := hcs
    exact ⟨[], rfl, fun k x hk => by simp at hk, fun x hk => by simp at hk, .inl rfl⟩
  · simp [Value.cells] at hcs
    obtain ⟨rfl, rfl, rfl⟩ := hcs
    have hm' : len ≤ m := by rw [hmm]; split <;> omega
    rw [Tryd.cells86] at hc
    obtain ⟨X, hX⟩ := Go.Deep.choose_lt (α := Ct) (n := m) (p := fun i x => (w.cell? ((a.add (i * 4)).add 0) = some (.int .i64 x.1) ∧ w.cell? ((a.add (i * 4)).add 1) = some (.int .i64 x.2.1) ∧ w.cell? ((a.add (i * 4)).add 2) = some (.int .i64 x.2.2.1) ∧ w.cell? ((a.add (i * 4)).add 3) = some (.int .i64 x.2.2.2)) ∧ in64 x.2.1 ∧ in64 x.2.2.1 ∧ in64 x.2.2.2) (fun i hi => by
      obtain ⟨cs', h1, h2⟩ := hc i hi
      obtain ⟨_, _, hcell⟩ := World.cells?_some h1
      obtain ⟨kd, on, V, I, rfl, w1, w2, w3⟩ := trod_ct h2
      exact ⟨(kd, on, V, I), ⟨hcell 0 (by omega), hcell 1 (by omega), hcell 2 (by omega), hcell 3 (by omega)⟩, w1, w2, w3⟩)
    refine ⟨(List.range len).map X, by simp, fun k x hk => ?_, fun x hk => ?_, .inr ⟨_, _, by rw [hx], by simp⟩⟩
    · have hk' : k < len := by have := (List.getElem?_eq_some_iff.1 hk).1; simpa using this
      have ex : X k = x := by simpa [hk'] using hk
      obtain ⟨b, off, spot⟩ := a
      obtain ⟨c0, c1, c2, c3⟩ := (hX k (by omega)).1
      have hspot : spot = none := by simpa [Addr.add] using World.cell?_spot (hX 0 (by omega)).1.1
      subst hspot
      rw [ex] at c0 c1 c2 c3
      simp only [add_none] at c0 c1 c2 c3
      exact ⟨b, off, rfl, c0, c1, c2, c3⟩
    · obtain ⟨i, hi, rfl⟩ := List.mem_map.1 hk
      exact (hX i (by have := List.mem_range.1 hi; omega)).2
end

set_option maxRecDepth 100000 in
theorem bits_lifted (os : Os) (started : os.Started) (H : Type) (enc : TypeId × Value → H) :
    ReturnsInHanded {} Tryd.checked os 5 .any (fun w args => (Rows.tableBitsSpec.pre enc Tryd.prog Tryd.f5 [] false w args ∧ laidMetH Tryd.prog Rows.tableBitsRow.laid w) ∧ sizedMet enc Tryd.prog Tryd.f5 (OpenSpec.ofChange Rows.tableBitsSpec) false w args)
      (Rows.tableBitsSpec.post enc Tryd.prog Tryd.f5 false true false false) := by
  refine returnsInHanded_of_change_and (C := Tryd.checked) (X := fun w _ => laidMetH Tryd.prog Rows.tableBitsRow.laid w) (fun _ _ _ hh h => h.of_heap hh) own started (by kernel_rfl) Tryd.func5
    (ChangeSpec.witness_shaped (enc := enc) (C := Tryd.checked) (os := os) (X := fun w _ => laidMetH Tryd.prog Rows.tableBitsRow.laid w) false (World.laidAll Tryd.prog os Rows.tableBitsRow.laid) #[.agg #[.int .i64 0, .int .i64 0, .int .i64 0], .slice none 0 0] 8 (World.laidAll_os _ _ _)
      (World.shaped_of_ZipB (by kernel_rfl) (by kernel_rfl)) (by kernel_rfl) (by kernel_rfl) (by kernel_rfl)
      (by rw [MakeChecks.laidMetH_plain _ _ _ (by kernel_rfl)]; exact laidMet_laidAll _ (by kernel_rfl) (by kernel_rfl))) ?_
  intro W base args ds gs before hval0 hW _ hsz0 hL _
  have hsz : (DataW.weightsEach Tryd.prog (Tryd.f5.params.toList ++ Rows.tableBitsSpec.plain.varTypes Tryd.prog) (ds ++ gs)).all (· ≤ reachBytes) = true := hsz0
  clear hsz0
  have hval : ∀ (j : Nat) t v, Tryd.f5.params[j]? = some t → args[j]? = some v → Value.okWide Tryd.prog W .any base t v := hval0
  have hW' := hW
  obtain ⟨p, q, hA0, hV, rfl, _, _⟩ := hW
  have hA : DataW.TrodAll enc Tryd.prog W 0 (fun _ => true) true Tryd.f5.params.toList args.toList ds p := hA0
  rw [Tryd.params5] at hA hval hsz
  obtain ⟨v0, v1, d0, d1, p0, p1, rfl, rfl, rfl, h0, h1⟩ := trodAll_two hA
  obtain ⟨rfl, rfl⟩ := trodVars_none hV
  obtain ⟨x, y, z, rfl⟩ := open_three (hval 0 70 v0 rfl rfl) h0
  obtain ⟨a0, len, cap, rfl⟩ := okWide_slice Tryd.underlying71 (hval 1 71 v1 rfl rfl)
  clear hA0 hval0
  simp only [List.append_nil] at hW'
  have hlt : ∀ x ∈ p0 ++ p1, x.block < W.heap.size := fun x hx => by simpa using hW'.lt x hx
  have k0 : ∀ (W' : World), Below W.heap.size W W' → DataW.Trod enc Tryd.prog W' 0 (fun b => decide (b < W.heap.size)) true 70 (.agg #[.int .i64 x, .int .i64 y, .int .i64 z]) d0 p0 :=
    fun W' hn => Below.trod laidOut (by kernel_rfl) (of_decide_eq_true (by kernel_rfl)) h0 hn (fun z hz => hlt z (List.mem_append_left _ hz))
  have k1 : ∀ (W' : World), Below W.heap.size W W' → DataW.Trod enc Tryd.prog W' 0 (fun b => decide (b < W.heap.size)) true 71 (.slice a0 len cap) d1 p1 :=
    fun W' hn => Below.trod laidOut (by kernel_rfl) (of_decide_eq_true (by kernel_rfl)) h1 hn (fun z hz => hlt z (List.mem_append_right _ hz))
  obtain ⟨f0, hf⟩ := h1
  obtain ⟨l, rfl, hP, hv, hz⟩ := open_cts hf
  have hlen : l.length ≤ 4398046511104 := by
    rcases hz with hz | ⟨es, sp, e, hl⟩
    · omega
    · simp only at e
      subst e
      have := sized_slice hsz (j := 1) (t := 71) (e := 86) rfl rfl Tryd.underlying71
      rw [Tryd.bytes86] at this
      simp only [reachBytes] at this
      omega
  refine (bits_walk x y z l a0 cap W (tab_of_laid hL) hP hv hlen).mono fun e W' ⟨he, hb⟩ => ?_
  subst he
  exact ⟨_, rfl, _, _, _, [], _, [], hW', trodAll_mk1 (shut_bool Tryd.underlying4 _), trodAll_mk2 (k0 _ hb) (k1 _ hb), rfl, hb.frame _, fun h => by cases h⟩

theorem bits_row : Rows.TableBitsSaid :=
  OpenClaim.holds_of_wide 5 Tryd.f5 rfl rfl rfl rfl rfl rfl rfl ⟨rfl, rfl, rfl, rfl, rfl⟩ rfl rfl rfl rfl rfl (by kernel_rfl) Tryd.func5 (by kernel_rfl)
    (of_decide_eq_true (by kernel_rfl)) (by unfold Func.isWrapper; first | (rw [if_pos (by decide +kernel)]; kernel_rfl) | (rw [if_neg (by decide +kernel)]; exact ⟨rfl, rfl⟩))
    (fun os started H enc _ => bits_lifted os started H enc)

theorem plain (f : FuncId) (fn : Func) (hf : Tryd.pinned.checked.prog.funcNamed "paddock/paddocklaw17.TableBits" = some f) (hfn : Tryd.pinned.checked.prog.funcs[f]? = some fn) :
    false = Tryd.pinned.checked.prog.looks [] ∧ ∀ (j : Nat) t, fn.params[j]? = some t → Tryd.pinned.checked.prog.wantsStandIn t = false := by
  obtain rfl : f = 5 := Option.some.inj ((show Tryd.prog.funcNamed "paddock/paddocklaw17.TableBits" = some 5 by kernel_rfl).symm.trans hf) |>.symm
  obtain rfl : fn = Tryd.f5 := (Option.some.inj (Tryd.func5.symm.trans hfn)).symm
  refine ⟨by kernel_rfl, fun j t ht => ?_⟩
  rw [Tryd.params5] at ht
  have hm : t ∈ [70, 71] := by simpa using Array.mem_of_getElem? ht
  have hall : ([70, 71].all fun u => !Tryd.prog.wantsStandIn u) = true := by kernel_rfl
  exact (show Tryd.prog.wantsStandIn t = false by simpa using List.all_eq_true.1 hall t hm)

theorem bits_holds : Rows.TableBitsCardSaid :=
  Claim7.holds_tied_plain_at .later [] _ _ _ _ bits_row (fun _ h => by cases h) (by kernel_rfl) (fun _ h => by cases h) tableBits_row_tie rfl ⟨rfl, rfl⟩ (by kernel_rfl) rfl plain (by kernel_rfl)
end Go.Proofs.YtjnjpjpgokdciaaDoor
