/- WireTakes, proved: for every bytes and every list of wants the law returns true: whatever is taken from whatever bytes, the program's In answers as the plain reference does, stands behind it at the same place with the same fault and end, neither touches nor keeps the bytes it was given; so does a zero In; a nil In answers zeros and its fault; the arguments read afterwards as they read before. Conditions: the listed package-level variable of the program holds what the card ties it to. -/
import Derived.Test.YtomklacjaadcaaaDoorTakesW
import Derived.Deep.SlicePairs
import Derived.Test.YtomklacjaadcaaaDoorCards
import Derived.Test.YtomklacjaadcaaaDoorTie
import Derived.ProofKit
import Derived.OpenShut
import Derived.Lib.SmallJoins
import Derived.Lay
import Derived.LaidMore
import Derived.Lib.LaidU8
import Derived.Stop.Joined
import Derived.SevenTiedAt
import Derived.SizedLaws
import Derived.ChangeSlices
import Derived.Carry
namespace Go.Proofs.YtomklacjaadcaaaDoor
open Go.ChangeShapes Go.WideShapes Go.ChangeAt Go.RowKit Go.Joins Go.Lib

theorem own : ownKnob Tryd.prog.godebug = none := by kernel_rfl
theorem laidOut : laidOutB Tryd.prog = true := by kernel_rfl
theorem cells5 : Tryd.prog.cellsOf 5 = 1 := by kernel_rfl
theorem bytes5 : Tryd.prog.bytesOf 5 = 1 := by kernel_rfl
theorem cells66 : Tryd.prog.cellsOf 66 = 1 := by kernel_rfl
theorem cells137 : Tryd.prog.cellsOf 137 = 16 := by kernel_rfl
theorem tRem : (Tryd.prog.globals[1]?).map (·.type) = some 137 := by kernel_rfl
theorem wf_u8 {a : Int} (h : (Lit.int .u8 a).wf = true) : 0 ≤ a ∧ a ≤ 255 := by
  simpa [Lit.wf, IntKind.min, IntKind.max, IntKind.signed, IntKind.bits] using h
def remZ : List Int := [0, 498536548, 997073096, 651767980, 1994146192, 1802195444, 1303535960, 1342533948, 3988292384, 4027552580, 3604390888, 3412177804, 2607071920, 2262029012, 2685067896, 3183342108]
/-- What the row's condition on the table gives the walks. -/
theorem rem_laid {W : World} (h : laidMetH Tryd.prog Rows.wireTakesRow.laid W) : RemIs W := by
  rw [MakeChecks.laidMetH_plain _ _ _ (by kernel_rfl)] at h
  have r : VarReads Tryd.prog W "paddock/wire.remainders" Rows.laid_paddock_wire_remainders := laidMet.reads h (by simp [Rows.wireTakesRow])
  obtain ⟨g, t, cs, fuel, p, e1, e2, e3, e4⟩ := r
  obtain rfl := Option.some.inj (gRem.symm.trans e1)
  obtain rfl := Option.some.inj (tRem.symm.trans e2)
  have hT : Lib.TabIs Tryd.prog W "paddock/wire.remainders" .u32 remZ := by
    unfold Lib.TabIs
    rw [e3, ← Lib.cells_of_tab (zs := remZ) Tryd.underlying137 Tryd.underlying66 cells66 cells137 e4]
  intro i hi
  rw [hT.cell gRem i hi]
  have : ∀ i : Fin 16, remZ.getD i.1 0 = ((rem.getD i.1 0 : Nat) : Int) := by decide
  rw [this ⟨i, hi⟩]
theorem u8_of {z : Int} (h : 0 ≤ z ∧ z ≤ 255) : (((UInt8.ofNat z.toNat).toNat : Nat) : Int) = z := by
  have : (UInt8.ofNat z.toNat).toNat = z.toNat % 256 := by simp
  rw [this]; omega
/-- A slice of bytes, opened. -/
theorem open_by {H : Type} {enc : TypeId × Value → H} {W : World} {fuel : Nat} {cs : List Value} {d : DataW H} {p : List MemPlace} (h : DataW.trod enc Tryd.prog W 0 (fun _ => true) true fuel 31 cs = some (d, p)) :
    ∃ ao cap l, cs = [.slice ao l.length cap] ∧ By W ao l ∧ l.length ≤ cap ∧ (ao = none → l = [] ∧ cap = 0) ∧ (∀ ts ds, (DataW.weightsEach Tryd.prog ts ds).all (· ≤ reachBytes) = true → ts[0]? = some 31 → ds[0]? = some d → l.length ≤ 140737488351232) := by
  rcases open_ints Tryd.underlying31 Tryd.underlying5 cells5 h with ⟨rfl, _⟩ | ⟨a, len, cap, zs, rfl, _, hl, hm, hz, hx, hcell, hwz⟩
  · exact ⟨none, 0, [], rfl, fun i hi => (by simp at hi), by simp, fun _ => ⟨rfl, rfl⟩, fun _ _ _ _ _ => by simp⟩
  · simp only [Prod.mk.injEq] at hx
    obtain ⟨rfl, rfl⟩ := hx
    simp only [if_true] at hz
    have hlen : ((zs.take len).map fun z => UInt8.ofNat z.toNat).length = len := by rw [List.length_map, List.length_take]; omega
    refine ⟨some a, cap, (zs.take len).map fun z => UInt8.ofNat z.toNat, by rw [hlen], fun i hi => ?_, by omega, fun e => (by cases e), fun ts ds hw ht hd => ?_⟩
    · rw [hlen] at hi
      obtain ⟨b, off, spot⟩ := a
      have hspot : spot = none := by simpa [Addr.add] using World.cell?_spot (hcell 0 (by omega))
      subst hspot
      refine ⟨b, off, rfl, ?_⟩
      have hm : zs.getD i 0 ∈ zs := by
        rw [List.getD_eq_getElem?_getD, List.getElem?_eq_getElem (by omega)]
        exact List.getElem_mem _
      have e : ((zs.take len).map fun z => UInt8.ofNat z.toNat).getD i 0 = UInt8.ofNat (zs.getD i 0).toNat := by
        simp [List.getD, hi, show i < zs.length by omega]
      rw [e, u8_of (wf_u8 (hwz _ hm)), ← Addr.add_lit]
      exact hcell i (by omega)
    · rw [hlen]
      have := sized_slice (P := Tryd.prog) (j := 0) (t := 31) (e := 5) hw ht hd Tryd.underlying31
      rw [bytes5] at this
      simp only [lits, List.length_map, List.length_take, List.length_drop, reachBytes] at this
      omega
theorem cells3 : Tryd.prog.cellsOf 3 = 1 := by kernel_rfl
theorem cells57 : Tryd.prog.cellsOf 57 = 2 := by kernel_rfl
theorem bytes57 : Tryd.prog.bytesOf 57 = 16 := by kernel_rfl
set_option maxRecDepth 100000 in
theorem slice_in {W : World} {base len cap : Nat} {a : Addr} (h : Value.okWide Tryd.prog W .any base 31 (.slice (some a) len cap)) : a.block < W.heap.size := by
  simp only [Value.okWide, Tryd.underlying31, Cell.okWide, Cell.ok] at h
  have h2 := h.2.2
  unfold World.has at h2
  obtain ⟨_, _, row, cells, hs, _⟩ := h2
  rcases Nat.lt_or_ge a.block W.heap.size with hlt | hge
  · exact hlt
  · unfold World.shape? at hs
    rw [Array.getElem?_eq_none hge] at hs
    simp at hs

theorem open_wants {H : Type} {enc : TypeId × Value → H} {W : World} {fuel : Nat} {wo : Option Addr} {len cap : Nat} {d : DataW H} {p : List MemPlace} (hf : DataW.trod enc Tryd.prog W 0 (fun _ => true) true fuel 43 (Value.slice wo len cap).cells.toList = some (d, p)) {ts : List TypeId} {ds : List (DataW H)} (hsz : (DataW.weightsEach Tryd.prog ts ds).all (· ≤ reachBytes) = true) (ht : ts[1]? = some 43) (hd : ds[1]? = some d) :
    ∃ l : List (Int × Int), l.length = len ∧ len ≤ 281474976710656 ∧ Wts W wo l := by
  rcases Go.Deep.open_slice_pairs Tryd.underlying43 Tryd.underlying57 cells57 rfl rfl cells3 cells3 hf with ⟨hcs, hx⟩ | ⟨a, len', cap', m, n, V0, V1, D0, D1, P0, P1, hcs, _, hl, hm, hmm, hx, hc⟩
  · simp [Value.cells] at hcs
    obtain ⟨rfl, rfl, rfl⟩ := hcs
    exact ⟨[], rfl, by omega, fun i hi => by simp at hi⟩
  · simp [Value.cells] at hcs
    obtain ⟨rfl, rfl, rfl⟩ := hcs
    simp only [Prod.mk.injEq] at hx
    obtain ⟨rfl, rfl⟩ := hx
    have hle : len ≤ 281474976710656 := by
      have := sized_slice hsz (j := 1) (t := 43) (e := 57) ht hd Tryd.underlying43
      rw [bytes57] at this
      simp only [List.length_map, List.length_range, reachBytes] at this
      omega
    have hm' : len ≤ m := by rw [hmm]; split <;> omega
    have hv : ∀ i, i < len → W.cell? (a.add (i * 2)) = some (.int .i64 (RowKit.intOf (V0 i))) ∧ W.cell? (a.add (i * 2 + 1)) = some (.int .i64 (RowKit.intOf (V1 i))) := fun i hi => by
      obtain ⟨c0, c1, t0, t1⟩ := hc i (by omega)
      obtain ⟨x, e0, _, _⟩ := DataW.trod_int Tryd.underlying3 t0
      obtain ⟨y, e1, _, _⟩ := DataW.trod_int Tryd.underlying3 t1
      simp only [List.cons.injEq, and_true] at e0 e1
      rw [c0, c1, e0, e1]
      exact ⟨rfl, rfl⟩
    by_cases h00 : len = 0
    · subst h00
      exact ⟨[], rfl, hle, fun i hi => absurd hi (by simp)⟩
    · obtain ⟨b, off, spot⟩ := a
      have hspot : spot = none := by simpa [Addr.add] using World.cell?_spot (hv 0 (by omega)).1
      subst hspot
      refine ⟨(List.range len).map fun i => (RowKit.intOf (V0 i), RowKit.intOf (V1 i)), by simp, hle, fun i hi => ?_⟩
      have hi' : i < len := by simpa using hi
      have e : ((List.range len).map fun i => (RowKit.intOf (V0 i), RowKit.intOf (V1 i))).getD i (0, 0) = (RowKit.intOf (V0 i), RowKit.intOf (V1 i)) := by simp [List.getD, hi']
      rw [e]
      obtain ⟨q0, q1⟩ := hv i hi'
      rw [Addr.add_lit] at q0 q1
      exact ⟨b, off, rfl, q0, q1⟩

set_option maxRecDepth 100000 in
theorem takes_lifted (os : Os) (started : os.Started) (H : Type) (enc : TypeId × Value → H) :
    ReturnsInHanded {} Tryd.checked os 4 .any (fun w args => (Rows.wireTakesSpec.pre enc Tryd.prog Tryd.f4 [] false w args ∧ laidMetH Tryd.prog Rows.wireTakesRow.laid w) ∧ sizedMet enc Tryd.prog Tryd.f4 (OpenSpec.ofChange Rows.wireTakesSpec) false w args)
      (Rows.wireTakesSpec.post enc Tryd.prog Tryd.f4 false true false false) := by
  refine returnsInHanded_of_change_and (C := Tryd.checked) (X := fun w _ => laidMetH Tryd.prog Rows.wireTakesRow.laid w) (fun _ _ _ hh h => h.of_heap hh) own started (by kernel_rfl) Tryd.func4
    (ChangeSpec.witness_shaped (enc := enc) (C := Tryd.checked) (os := os) (X := fun w _ => laidMetH Tryd.prog Rows.wireTakesRow.laid w) false (World.laidAll Tryd.prog os Rows.wireTakesRow.laid) #[.slice none 0 0, .slice none 0 0] 4 (World.laidAll_os _ _ _)
      (World.shaped_of_ZipB (by kernel_rfl) (by kernel_rfl)) (by kernel_rfl) (by kernel_rfl) (by kernel_rfl)
      (by rw [MakeChecks.laidMetH_plain _ _ _ (by kernel_rfl)]; exact laidMet_laidAll _ (by kernel_rfl) (by kernel_rfl))) ?_
  intro W base args ds gs before hval0 hW _ hsz0 hL _
  have hsz : (DataW.weightsEach Tryd.prog (Tryd.f4.params.toList ++ Rows.wireTakesSpec.plain.varTypes Tryd.prog) (ds ++ gs)).all (· ≤ reachBytes) = true := hsz0
  clear hsz0
  have hval : ∀ (j : Nat) t v, Tryd.f4.params[j]? = some t → args[j]? = some v → Value.okWide Tryd.prog W .any base t v := hval0
  have hW' := hW
  obtain ⟨p, q, hA0, hV, rfl, _, _⟩ := hW
  have hA : DataW.TrodAll enc Tryd.prog W 0 (fun _ => true) true Tryd.f4.params.toList args.toList ds p := hA0
  rw [Tryd.params4] at hA hval hsz
  obtain ⟨v0, v1, d0, d1, p0, p1, rfl, rfl, rfl, h0, h1⟩ := trodAll_two hA
  obtain ⟨rfl, rfl⟩ := trodVars_none hV
  have h0k := h0
  have h1k := h1
  clear hA0 hval0
  simp only [List.append_nil] at hW'
  have hlt : ∀ x ∈ p0 ++ p1, x.block < W.heap.size := fun x hx => by simpa using hW'.lt x hx
  have hargs0 : ∀ (W' : World), Below W.heap.size W W' → DataW.Trod enc Tryd.prog W' 0 (fun b => decide (b < W.heap.size)) true 31 v0 d0 p0 :=
    fun W' hn => Below.trod laidOut (by kernel_rfl) (of_decide_eq_true (by kernel_rfl)) h0k hn (fun x hx => hlt x (List.mem_append_left _ hx))
  have hargs1 : ∀ (W' : World), Below W.heap.size W W' → DataW.Trod enc Tryd.prog W' 0 (fun b => decide (b < W.heap.size)) true 43 v1 d1 p1 :=
    fun W' hn => Below.trod laidOut (by kernel_rfl) (of_decide_eq_true (by kernel_rfl)) h1k hn (fun x hx => hlt x (List.mem_append_right _ hx))
  have hR := rem_laid hL
  have hv0 := hval 0 31 v0 rfl rfl
  obtain ⟨a0, len0, cap0, rfl⟩ := okWide_slice Tryd.underlying31 hv0
  obtain ⟨wo, len, cw, rfl⟩ := okWide_slice Tryd.underlying43 (hval 1 43 v1 rfl rfl)
  obtain ⟨fuel, hf⟩ := h0
  obtain ⟨fuel1, hf1⟩ := h1
  obtain ⟨ao, cap, l, e0, hby, hc, hn0, hlen⟩ := open_by hf
  simp [Value.cells] at e0
  obtain ⟨rfl, rfl, rfl⟩ := e0
  obtain ⟨ws, rfl, hws, hwts⟩ := open_wants hf1 hsz rfl rfl
  have hao : ∀ a, a0 = some a → a.block < W.heap.size := fun a ha => by subst ha; exact slice_in hv0
  refine (takes_walk a0 cap0 l wo cw ws W (hlen _ _ hsz rfl rfl) hc hn0 hby hao hws hwts hR (Nat.lt_of_succ_lt hR.lt)).mono fun e W' ⟨he, hb⟩ => ?_
  subst he
  exact ⟨_, rfl, _, _, _, [], _, [], hW', trodAll_mk1 (shut_bool Tryd.underlying4 _), trodAll_mk2 (hargs0 _ hb) (hargs1 _ hb), rfl, hb.frame _, fun h => by cases h⟩

theorem takes_row : Rows.WireTakesSaid :=
  OpenClaim.holds_of_wide 4 Tryd.f4 rfl rfl rfl rfl rfl rfl rfl ⟨rfl, rfl, rfl, rfl, rfl⟩ rfl rfl rfl rfl rfl (by kernel_rfl) Tryd.func4 (by kernel_rfl)
    (of_decide_eq_true (by kernel_rfl)) (by unfold Func.isWrapper; first | (rw [if_pos (by decide +kernel)]; kernel_rfl) | (rw [if_neg (by decide +kernel)]; exact ⟨rfl, rfl⟩))
    (fun os started H enc _ => takes_lifted os started H enc)

theorem plain (f : FuncId) (fn : Func) (hf : Tryd.pinned.checked.prog.funcNamed "paddock/paddocklaw03.WireTakes" = some f) (hfn : Tryd.pinned.checked.prog.funcs[f]? = some fn) :
    false = Tryd.pinned.checked.prog.looks [] ∧ ∀ (j : Nat) t, fn.params[j]? = some t → Tryd.pinned.checked.prog.wantsStandIn t = false := by
  obtain rfl : f = 4 := Option.some.inj ((show Tryd.prog.funcNamed "paddock/paddocklaw03.WireTakes" = some 4 by kernel_rfl).symm.trans hf) |>.symm
  obtain rfl : fn = Tryd.f4 := (Option.some.inj (Tryd.func4.symm.trans hfn)).symm
  refine ⟨by kernel_rfl, fun j t ht => ?_⟩
  rw [Tryd.params4] at ht
  have hm : t ∈ [31, 43] := by simpa using Array.mem_of_getElem? ht
  have hall : ([31, 43].all fun u => !Tryd.prog.wantsStandIn u) = true := by kernel_rfl
  exact (show Tryd.prog.wantsStandIn t = false by simpa using List.all_eq_true.1 hall t hm)

theorem takes_holds : Rows.WireTakesCardSaid :=
  Claim7.holds_tied_plain_at .later [] _ _ _ _ takes_row (fun _ h => by cases h) (by kernel_rfl) (fun _ h => by cases h) wireTakes_row_tie rfl ⟨rfl, rfl⟩ (by kernel_rfl) rfl plain (by kernel_rfl)
end Go.Proofs.YtomklacjaadcaaaDoor
