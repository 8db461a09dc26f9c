/- The law's tells: what All told when it was taken it tells, twice over, and left early. -/
import Derived.Test.YtodlhclaboofiaaDoorSa
import Derived.Test.YtodlhclaboofiaaDoorR5
set_option linter.unusedSimpArgs false
set_option linter.unusedVariables false
namespace Go.Proofs.YtodlhclaboofiaaDoor
open Go.RowKit Go.Sort Go.Shelf
attribute [local go_sem] Oper.semAt_some wide_fn
attribute [local simp] wide_fn

theorem run_eqf_in (d gf : Nat) (lb : Array Value) (w : World) : (Op.equalIn (d + 1) 44 (.func (.func gf) #[] lb) .nilFunc).run Tryd.prog w = .ok false w := by
  simp [Op.equalIn, run_underlying Tryd.underlying44]
theorem run_eqf (gf : Nat) (lb : Array Value) (w : World) : (binOp .eql 44 (.func (.func gf) #[] lb) .nilFunc).run Tryd.prog w = .ok (.bool false) w := by
  have h : (Op.equal 44 (.func (.func gf) #[] lb) .nilFunc).run Tryd.prog w = .ok false w := run_eqf_in 9999 gf lb w
  simp [binOp, h]
theorem Tab.below {w w' : World} (h : Tab w) (g : Below w.heap.size w w') : Tab w' := by
  unfold Tab Lib.TabIs World.var? at *
  cases hg : Tryd.prog.globalNamed "internal/strconv.uint64pow10" with
  | none => simp [hg] at h
  | some i =>
    simp only [hg, Option.bind_some] at h ⊢
    have hlt : i < w.heap.size := by
      rcases Nat.lt_or_ge i w.heap.size with h' | h'
      · exact h'
      · rw [Array.getElem?_eq_none h'] at h; simp at h
    rw [g.block i hlt]
    exact h
/-- The records of the ranges over functions that have ended. -/
def Dfs (w : World) (lo : Nat) (l : List Nat) : Prop := l.Nodup ∧ ∀ D ∈ l, lo ≤ D ∧ w.heap[D]? = some (.deferred (some []))
theorem Dfs.below {w w' : World} {lo : Nat} {l : List Nat} (h : Dfs w lo l) (g : Below w.heap.size w w') : Dfs w' lo l := ⟨h.1, fun D hD => ⟨(h.2 D hD).1, (g.block D (lt_of_block (h.2 D hD).2)).trans (h.2 D hD).2⟩⟩
theorem Dfs.cons {w : World} {lo D : Nat} {l : List Nat} (h : Dfs w lo l) (hD : lo ≤ D) (hK : w.heap[D]? = some (.deferred (some []))) (hn : D ∉ l) : Dfs w lo (D :: l) :=
  ⟨List.nodup_cons.2 ⟨hn, h.1⟩, fun E hE => by
    rcases List.mem_cons.1 hE with rfl | hE
    · exact ⟨hD, hK⟩
    · exact h.2 E hE⟩
theorem Dfs.all {w : World} {lo B : Nat} {l : List Nat} (h : Dfs w lo l) (hB : w.heap.size ≤ B) : B ∉ l := fun hm => by have := lt_of_block (h.2 B hm).2; omega
/-- What stands through all rounds. -/
structure TlC (w : World) (b1 b2 b N : Nat) (v : Value) (L : List Int) (W : World) : Prop where
  k1 : Bk W b1 51 [.func (.func 20) #[] #[.pointer (some ⟨b, 0, none⟩)], v]
  k2 : Bk W b2 4 [.bool false]
  kk : sKept W b N L
  lst : Lst W v L
  tab : Tab W
  bel : Below w.heap.size w W
theorem sKept.below {w w' : World} {b N : Nat} {L : List Int} (h : sKept w b N L) (g : Below w.heap.size w w') : sKept w' b N L := ⟨h.cap.mono g h.cap.lt, h.row.mono g h.row.lt⟩
theorem TlC.below {w : World} {b1 b2 b N : Nat} {v : Value} {L : List Int} {W W' : World} (h : TlC w b1 b2 b N v L W) (g : Below W.heap.size W W') : TlC w b1 b2 b N v L W' :=
  ⟨h.k1.mono g h.k1.lt, h.k2.mono g h.k2.lt, h.kk.below g, h.lst.below g, h.tab.below g, h.bel.trans (g.mono h.bel.size)⟩
def TlInv (w : World) (b1 b2 b N : Nat) (v : Value) (L : List Int) (a' : Act) (W : World) : Prop :=
  ∃ (ds : List Nat) (r : Nat) (rI : Int) (u4 u5 u6 u10 u11 u12 u13 u14 u15 u16 u17 u18 u19 u20 u21 u22 u23 u24 u25 u26 u27 u28 u29 u30 u31 u32 u33 u34 u35 u36 u37 u38 u39 u40 u41 u42 u43 u44 u45 u46 u47 u48 : Value), a' = { tmps := (.agg #[.func (.func 20) #[] #[.pointer (some ⟨b, 0, none⟩)], v] :: .pointer (some ⟨b1, 0, none⟩) :: .pointer (some ⟨b2, 0, none⟩) :: .int .i64 rI :: u4 :: u5 :: u6 :: .pointer (some ⟨b1, 0, none⟩) :: .func (.func 20) #[] #[.pointer (some ⟨b, 0, none⟩)] :: .bool false :: u10 :: u11 :: u12 :: u13 :: u14 :: u15 :: u16 :: u17 :: u18 :: u19 :: u20 :: u21 :: u22 :: u23 :: u24 :: u25 :: u26 :: u27 :: u28 :: u29 :: u30 :: u31 :: u32 :: u33 :: u34 :: u35 :: u36 :: u37 :: u38 :: u39 :: u40 :: u41 :: u42 :: u43 :: u44 :: u45 :: u46 :: u47 :: u48 :: []).toArray, defers := ds.map (fun D => { target := .collected D, args := #[] }) } ∧ Hid (rI = (r : Int)) ∧ r ≤ 2 ∧ ds.length = 2 * r ∧ Hid (Dfs W w.heap.size ds) ∧ Hid (TlC w b1 b2 b N v L W)
theorem grownBy_trans {A B C : World} {r r2 : Option Nat} (h : A.grownBy B r) (k : B.grownBy C r2) (hr : ∀ x, r2 = some x → r = some x ∨ A.heap.size ≤ x) : A.grownBy C r :=
  ⟨k.os.trans h.os, k.tape.trans h.tape, k.output.trans h.output, Nat.le_trans h.size k.size, fun b hb hn => (k.block b (Nat.lt_of_lt_of_le hb h.size) (fun e => (hr b e.symm).elim (fun e' => hn e'.symm) (fun h => by omega))).trans (h.block b hb hn)⟩
theorem ch_set (w : World) (b i : Nat) (v : Value) : w.grownBy (w.setCell ⟨b, i, none⟩ v) (some b) :=
  ⟨rfl, rfl, rfl, by simp [World.setCell], fun k hk hn => Below.heap_setCell _ _ _ _ (fun e => hn (by rw [e]))⟩
/-- What stands within a round: so many values were told, W0 the world that it began in. -/
def TlI (W0 : World) (b7 : Nat) (p : Nat → Prop) (pre : List (Nat × Int)) (W : World) : Prop := Bk W b7 3 [.int .i64 (pre.length : Nat)] ∧ ¬ p b7 ∧ W0.grownBy W (some b7)
theorem tli_con {W0 : World} {b7 B : Nat} (hB : W0.heap.size ≤ B) (h7 : b7 < W0.heap.size) : Con B (TlI W0 b7) := by
  refine ⟨?_, ?_, fun p q s A ⟨h1, h2, h3⟩ hb => ⟨h1, fun h => h2 (hb _ h), h3⟩⟩
  · rintro p s A A' row ⟨h1, h2, h3⟩ hg hr
    refine ⟨h1.same (hg.block _ h1.lt (fun e => by have := (hr _ e.symm).1; omega)), h2, grownBy_trans h3 hg (fun x e => .inr (by have := (hr x e).1; omega))⟩
  · rintro p s A b ⟨h1, h2, h3⟩ hb
    refine ⟨h1, ?_, h3⟩
    rintro (h | h)
    · exact h2 h
    · have := h1.lt; omega
theorem keepsFrom_set {B : Nat} {W : World} {b i : Nat} (hb : b < B) (v : Value) : KeepsFrom B W (W.setCell ⟨b, i, none⟩ v) :=
  ⟨by simp [World.setCell], fun k o hk h0 ho => (Below.heap_setCell _ _ _ _ (show k ≠ b by omega)).trans h0⟩
/-- The second range: left at once. -/
def TlX (W2 : World) (c : Code) (pre : List (Nat × Int)) (A : World) : Prop := c = .exit 4 ∧ Below W2.heap.size W2 A
theorem brk_owes (n : Nat) (w : World) (tm : Array Value) (ps : Array Tmp) (L : List (Nat × Int)) (p0 : Nat → Prop) (hps : 2 = ps.size) : Owes n w tm ps .skip (.block 5 (.exit 4)) sEnc L p0 (fun _ _ A => Below w.heap.size w A) (TlX w) (fun _ _ _ => True) := by
  refine ⟨⟨fun p s A A' row h hg hr => h.grown hg h.size (fun r e => (hr r e).1), fun _ _ _ _ h _ => h, fun _ _ _ _ h _ => h⟩, fun c s A A' row ⟨h, h2⟩ hg hr => ⟨h, h2.grown hg h2.size (fun r e => (hr r e).1)⟩, fun x a' s A A' row _ _ _ => trivial, fun _ => hps, ?_, ?_⟩
  · intro l p pre x W K hp hpb hI hs hK
    gi_wp2
    exact hK _ _ (KeepsFrom.refl _ _) (Kp.refl _) hI trivial
  · intro l p pre x a' W _ _ _ _ hI _ hpre
    gi_wp2
    exact ⟨KeepsFrom.refl _ _, rfl, hI⟩
set_option maxRecDepth 100000 in
set_option maxHeartbeats 16000000 in
theorem tells_in (n : Nat) (hn : 14 ≤ n) (b N : Nat) (v : Value) (L : List Int) (w : World) (hK : sKept w b N L) (hl : Lst w v L) (hT : Tab w) (hL : L.length ≤ 65536) (hin : ∀ (i : Nat) (x : Int), L[i]? = some x → in64 x) :
    CallsIn Fence.wide n Tryd.prog 12 #[.agg #[.func (.func 20) #[] #[.pointer (some ⟨b, 0, none⟩)], v]] w fun e w' => e = .returned (.bool true) ∧ Below w.heap.size w w' := by
  have k1 := (Bk.new w 51 [.func (.func 20) #[] #[.pointer (some ⟨b, 0, none⟩)], v]).alloc (.cells #[.bool false] 4)
  have k2 := Bk.new (w.alloc (.cells #[.func (.func 20) #[] #[.pointer (some ⟨b, 0, none⟩)], v] 51)) 4 [.bool false]
  have g0 := ((Gr.refl w).alloc (.cells #[.func (.func 20) #[] #[.pointer (some ⟨b, 0, none⟩)], v] 51)).alloc (.cells #[.bool false] 4)
  rw [World.size_alloc] at k2
  have AC : Hid (TlC w w.heap.size (w.heap.size + 1) b N v L ((w.alloc (.cells #[.func (.func 20) #[] #[.pointer (some ⟨b, 0, none⟩)], v] 51)).alloc (.cells #[.bool false] 4))) := ⟨k1, k2, hK.below g0.below, hl.below g0.below, hT.below g0.below, g0.below⟩
  have y0 := k1.at 0
  simp only [List.getElem?_cons_zero] at y0
  have hE := run_eqf 20
  have HIN := hid0 hin
  clear k1 k2 hK hl hT hin
  refine callsIn_of_wp_marks Tryd.func12 rfl trivial ?_ rfl
  simp only [Tryd.ntmps12, List.size_toArray, List.length_cons, List.length_nil, Nat.reduceAdd, Nat.reduceSub, Array.replicate_succ, Array.replicate_zero, List.push_toArray, List.append_toArray, List.nil_append, List.cons_append]
  have h1n : 1 ≤ n := by omega
  gi_wp2_with fail
  obtain ⟨b2, e2⟩ : ∃ b2, b2 = w.heap.size + 1 := ⟨_, rfl⟩
  obtain ⟨b1, e1⟩ : ∃ b1, b1 = w.heap.size := ⟨_, rfl⟩
  have hb2 : w.heap.size ≤ b2 := by omega
  rw [← e2] at AC ⊢
  rw [← e1] at AC y0 ⊢
  clear e1 e2 y0 hE g0
  generalize (w.alloc (.cells #[.func (.func 20) #[] #[.pointer (some ⟨b, 0, none⟩)], v] 51)).alloc (.cells #[.bool false] 4) = w1 at *
  refine wpIn_loop (TlInv w b1 b2 b N v L) (fun a' _ => 4 - a'.defers.length) ?start ?round
  case start =>
    exact ⟨[], 0, 0, _, _, _, _, _, _, _, _, _, _, _, _, _, _, _, _, _, _, _, _, _, _, _, _, _, _, _, _, _, _, _, _, _, _, _, _, _, _, _, _, _, _, rfl, rfl, by omega, rfl, ⟨List.nodup_nil, fun D h => (by cases h)⟩, AC⟩
  case round =>
    clear AC
    rintro a' W ⟨ds, r, rI, u4, u5, u6, u10, u11, u12, u13, u14, u15, u16, u17, u18, u19, u20, u21, u22, u23, u24, u25, u26, u27, u28, u29, u30, u31, u32, u33, u34, u35, u36, u37, u38, u39, u40, u41, u42, u43, u44, u45, u46, u47, u48, rfl, HRI, hr, hds, DS, AC⟩
    dsimp only
    by_cases c2 : r = 2
    · subst c2
      have hri : rI = 2 := HRI.out
      subst hri
      obtain ⟨D1, D2, D3, D4, rfl⟩ : ∃ a b c d, ds = [a, b, c, d] := by
        match ds, hds with
        | [a, b, c, d], _ => exact ⟨a, b, c, d, rfl⟩
      have f4 := AC.out.k2.frozen 0
      have y4 := AC.out.k2.one
      dsimp only [List.map]
      gi_wp2
      have hne : ∀ D ∈ [D1, D2, D3, D4], D ≠ b2 := fun D hD e => by
        have h := (DS.out.2 D hD).2
        have k := AC.out.k2
        rw [e] at h
        unfold Bk at k
        rw [k] at h
        cases h
      have q1 : (W.setCell ⟨b2, 0, none⟩ (.bool true)).heap[D1]? = some (.deferred (some [])) := (Below.heap_setCell _ _ _ _ (hne D1 (by simp))).trans (DS.out.2 D1 (by simp)).2
      have q2 : (W.setCell ⟨b2, 0, none⟩ (.bool true)).heap[D2]? = some (.deferred (some [])) := (Below.heap_setCell _ _ _ _ (hne D2 (by simp))).trans (DS.out.2 D2 (by simp)).2
      have q3 : (W.setCell ⟨b2, 0, none⟩ (.bool true)).heap[D3]? = some (.deferred (some [])) := (Below.heap_setCell _ _ _ _ (hne D3 (by simp))).trans (DS.out.2 D3 (by simp)).2
      have q4 : (W.setCell ⟨b2, 0, none⟩ (.bool true)).heap[D4]? = some (.deferred (some [])) := (Below.heap_setCell _ _ _ _ (hne D4 (by simp))).trans (DS.out.2 D4 (by simp)).2
      have k4' := AC.out.k2.set 0 (.bool true)
      have hB : Below w.heap.size w (W.setCell ⟨b2, 0, none⟩ (.bool true)) := AC.out.bel.setCell (p := ⟨b2, 0, none⟩) hb2 (.bool true)
      obtain ⟨hnd, hd⟩ := DS.out
      have l1 := (hd D1 (by simp)).1
      have l2 := (hd D2 (by simp)).1
      have l3 := (hd D3 (by simp)).1
      have l4 := (hd D4 (by simp)).1
      have n1 := hne D1 (by simp)
      have n2 := hne D2 (by simp)
      have n3 := hne D3 (by simp)
      have n4 := hne D4 (by simp)
      simp only [List.nodup_cons, List.mem_cons, List.not_mem_nil, or_false, not_or, not_false_eq_true, List.nodup_nil, and_true] at hnd
      obtain ⟨⟨d12, d13, d14⟩, ⟨d23, d24⟩, d34⟩ := hnd
      clear y4 f4 AC DS hd hne hds
      generalize W.setCell ⟨b2, 0, none⟩ (.bool true) = X0 at *
      have r2 : (X0.putObj D1 (.deferred none)).heap[D2]? = some (.deferred (some [])) := (World.putObj_heap_other (fun e => d12 e.symm)).trans q2
      have r3 : (X0.putObj D1 (.deferred none)).heap[D3]? = some (.deferred (some [])) := (World.putObj_heap_other (fun e => d13 e.symm)).trans q3
      have r4 : (X0.putObj D1 (.deferred none)).heap[D4]? = some (.deferred (some [])) := (World.putObj_heap_other (fun e => d14 e.symm)).trans q4
      have s3 : ((X0.putObj D1 (.deferred none)).putObj D2 (.deferred none)).heap[D3]? = some (.deferred (some [])) := (World.putObj_heap_other (fun e => d23 e.symm)).trans r3
      have s4 : ((X0.putObj D1 (.deferred none)).putObj D2 (.deferred none)).heap[D4]? = some (.deferred (some [])) := (World.putObj_heap_other (fun e => d24 e.symm)).trans r4
      have t4 : (((X0.putObj D1 (.deferred none)).putObj D2 (.deferred none)).putObj D3 (.deferred none)).heap[D4]? = some (.deferred (some [])) := (World.putObj_heap_other (fun e => d34 e.symm)).trans s4
      have k5 : Bk ((((X0.putObj D1 (.deferred none)).putObj D2 (.deferred none)).putObj D3 (.deferred none)).putObj D4 (.deferred none)) b2 4 [.bool true] :=
        ((World.putObj_heap_other (fun e => n4 e.symm)).trans ((World.putObj_heap_other (fun e => n3 e.symm)).trans ((World.putObj_heap_other (fun e => n2 e.symm)).trans (World.putObj_heap_other (fun e => n1 e.symm))))).trans k4'
      have q0 := k5.one
      refine ⟨by simp, .inl ⟨_, _, rfl, run_takeDeferred q1, ?_⟩⟩
      refine ⟨by simp, .inl ⟨_, _, rfl, run_takeDeferred r2, ?_⟩⟩
      refine ⟨by simp, .inl ⟨_, _, rfl, run_takeDeferred s3, ?_⟩⟩
      refine ⟨by simp, .inl ⟨_, _, rfl, run_takeDeferred t4, ?_⟩⟩
      exact ⟨.bool true, by simp [results, Tryd.results12, go_sem, q0], rfl, (((hB.trans (belowK_b (w := w) (Nat.le_refl _) X0 D1 _ (.deferred none) l1 q1 rfl rfl)).trans (belowK_b (w := w) (Nat.le_refl _) _ D2 _ (.deferred none) l2 r2 rfl rfl)).trans (belowK_b (w := w) (Nat.le_refl _) _ D3 _ (.deferred none) l3 s3 rfl rfl)).trans (belowK_b (w := w) (Nat.le_refl _) _ D4 _ (.deferred none) l4 t4 rfl rfl)⟩
    · have hr2 : rI < 2 := by have := HRI.out; omega
      have HR : Hid (r ≤ 1 ∧ ds.length = 2 * r) := ⟨by omega, hds⟩
      have hrn : (0 : Int) ≤ rI := by have := HRI.out; omega
      clear c2 hr hds
      have z0 := (AC.out.k1.alloc (.cells #[.int .i64 0] 3)).at 0
      simp only [List.getElem?_cons_zero] at z0
      gi_wp2_with fail
      have g7 := (Gr.refl W).alloc (.cells #[.int .i64 0] 3)
      have k7 := Bk.new W 3 [.int .i64 0]
      have AC7 := hid0 (AC.out.below g7.below)
      have DS7 := hid0 (DS.out.below g7.below)
      have hs7 : (W.alloc (.cells #[.int .i64 0] 3)).heap.size = W.heap.size + 1 := by simp
      have hwW : w.heap.size ≤ W.heap.size := AC.out.bel.size
      have hg7 : Below W.heap.size W (W.alloc (.cells #[.int .i64 0] 3)) := g7.below
      generalize W.alloc (.cells #[.int .i64 0] 3) = W0 at *
      clear z0 g7
      have hN7 : ¬ tw b N W.heap.size := by
        have h1 := AC.out.kk.cap.lt
        have h2 := AC.out.kk.row.lt
        rintro (h | h)
        · omega
        · omega
      have SQ := s_all1_seq (n - 1) b N L hL W0 AC7.out.kk
      have e20 : ∀ args w, (callFunc 20 args).run Tryd.prog w = .ok (.enter 20 args) w := enters_of Tryd.func20 (by kernel_rfl) rfl
      have h2n : 1 ≤ n - 1 - 1 := by omega
      refine range_out (p0 := tw b N) (L := idx L) (encs := sEnc) (I := TlI W0 W.heap.size) (Ix := fun _ _ _ => False)
        (Ax := fun x a' A => a' = { tmps := (.agg #[.func (.func 20) #[] #[.pointer (some ⟨b, 0, none⟩)], v] :: .pointer (some ⟨b1, 0, none⟩) :: .pointer (some ⟨b2, 0, none⟩) :: .int .i64 rI :: .pointer (some ⟨W.heap.size, 0, none⟩) :: .int .i64 (x.1 : Int) :: sV x.2 :: .pointer (some ⟨b1, 0, none⟩) :: .func (.func 20) #[] #[.pointer (some ⟨b, 0, none⟩)] :: .bool false :: .int .i64 rI :: .bool true :: u12 :: u13 :: .pointer (some ⟨b1, 0, none⟩) :: .func (.func 20) #[] #[.pointer (some ⟨b, 0, none⟩)] :: .int .i64 (x.1 : Int) :: sV x.2 :: u18 :: u19 :: u20 :: u21 :: u22 :: u23 :: u24 :: u25 :: u26 :: u27 :: u28 :: u29 :: u30 :: u31 :: u32 :: u33 :: u34 :: u35 :: u36 :: u37 :: u38 :: u39 :: u40 :: u41 :: u42 :: u43 :: u44 :: u45 :: u46 :: u47 :: u48 :: []).toArray, defers := [] })
        rfl e20 SQ ?owes (tw b N) (fun _ h => h) (by rintro c (rfl | rfl); exact AC7.out.kk.cap.lt; exact AC7.out.kk.row.lt) ?start ?done ?stop
      case start => exact ⟨k7, hN7, ⟨rfl, rfl, rfl, Nat.le_refl _, fun b hb _ => rfl⟩⟩
      case stop =>
        rintro D c pre A hD hpre hx hK
        exact hx.elim
      case owes =>
        refine ⟨tli_con (Nat.le_refl _) (by omega), fun c s A A' row h _ _ => h, ?_, fun _ => rfl, ?_, ?_⟩
        · rintro x a' _ X Y row h hg hr
          exact h
        · rintro l p pre x A K hp hpb hI hsA hK
          dsimp only [sEnc]
          gi_wp2
          exact hK _ _ (KeepsFrom.refl _ _) (Kp.refl _) hI rfl
        · rintro l p pre x a' A hl ⟨rr, hrr⟩ hp hpb ⟨h1, h2, h3⟩ rfl hpre
          have BA : Below W.heap.size W A := ⟨h3.os.trans hg7.os, h3.tape.trans hg7.tape, h3.output.trans hg7.output, Nat.le_trans hg7.size h3.size, fun k hk => (h3.block k (by omega) (fun e => by cases e; omega)).trans (hg7.block k hk)⟩
          have AA := hid0 (AC.out.below BA)
          have hlk : (idx L)[pre.length]? = some x := by
            obtain ⟨s, hs⟩ := hpre
            rw [← hs]
            simp
          have hkN : pre.length < L.length := by have := (List.getElem?_eq_some_iff.1 hlk).1; rwa [idx_len] at this
          rw [idx_at hkN] at hlk
          cases hlk
          have HP : Hid ((pre ++ [(pre.length, L.getD pre.length 0)]).length = pre.length + 1) := by unfold Hid; simp
          obtain ⟨k, hk⟩ : ∃ k, k = pre.length := ⟨_, rfl⟩
          have hLk : L[k]? = some (L.getD k 0) := by rw [hk]; simp [List.getD, List.getElem?_eq_getElem hkN]
          obtain ⟨ao, cap, rfl⟩ : ∃ ao cap, v = .slice ao L.length cap := by
            obtain ⟨ao, cap, e, _⟩ := AA.out.lst
            exact ⟨ao, cap, e⟩
          obtain ⟨_, lb, lo, rfl, ce⟩ := AA.out.lst.at hLk
          have TX := hid0 (text_any (L.getD k 0) A (HIN.out _ _ hLk) AA.out.tab)
          rw [← hk] at h1 hkN HP ⊢
          have hy1 := AA.out.k1.at 1
          simp only [List.getElem?_cons_succ, List.getElem?_cons_zero] at hy1
          have hy7 := h1.one
          generalize L.getD k 0 = xv at *
          clear hk hpre hLk
          have hki : (k : Int) < (L.length : Int) := by omega
          have hkd : decide ((L.length : Int) ≤ (k : Int)) = false := by simp; omega
          have hk6 : (k : Int) ≤ 65536 := by omega
          gi_wp2_with fail
          refine (CallsIn.inRound l (callsIn_wide.2 TX.out)).mono ?_
          rintro e A1 ⟨rfl, g1⟩
          have q7 := h1.gr g1
          have gg : W0.grownBy A1 (some W.heap.size) := grownBy_trans h3 g1.grownBy (fun x e => by cases e)
          have kf : KeepsFrom W0.heap.size A (A1.setCell ⟨W.heap.size, 0, none⟩ (.int .i64 ((k + 1 : Nat) : Int))) := (g1.from _).trans (keepsFrom_set (by omega) _)
          have kp : Kp p A (A1.setCell ⟨W.heap.size, 0, none⟩ (.int .i64 ((k + 1 : Nat) : Int))) := (Kp.gr hpb g1).t (Kp.set h2 _)
          have s7 := q7.set 0 (.int .i64 ((k + 1 : Nat) : Int))
          have gf : W0.grownBy (A1.setCell ⟨W.heap.size, 0, none⟩ (.int .i64 ((k + 1 : Nat) : Int))) (some W.heap.size) := grownBy_trans gg (ch_set A1 W.heap.size 0 _) (fun x e => .inl e)
          have FIN := hid0 (And.intro kf (And.intro kp (And.intro s7 gf)))
          have hf7 := q7.frozen 0
          have hc7 := q7.one
          rw [show ((k + 1 : Nat) : Int) = (k : Int) + 1 by omega] at FIN
          clear kf kp s7 gf gg h3 h1 TX ce hy1 hy7 AA BA g1 q7
          gi_wp2
          exact ⟨FIN.out.1, FIN.out.2.1, by rw [HP.out, show ((k + 1 : Nat) : Int) = (k : Int) + 1 by omega]; exact FIN.out.2.2.1, h2, FIN.out.2.2.2⟩
      case done =>
        rintro D q A hD ⟨h1, h2, h3⟩ hq hK
        have BA : Below W.heap.size W A := ⟨h3.os.trans hg7.os, h3.tape.trans hg7.tape, h3.output.trans hg7.output, Nat.le_trans hg7.size h3.size, fun k hk => (h3.block k (by omega) (fun e => by cases e; omega)).trans (hg7.block k hk)⟩
        have AA := hid0 (AC.out.below BA)
        have DA : Hid (Dfs A w.heap.size (D :: ds)) := (DS.out.below BA).cons (by omega) hK (DS.out.all (by omega))
        rw [idx_len] at h1
        obtain ⟨ao, cap, rfl⟩ : ∃ ao cap, v = .slice ao L.length cap := by
          obtain ⟨ao, cap, e, _⟩ := AA.out.lst
          exact ⟨ao, cap, e⟩
        have hy7 := h1.one
        have hy0 := AA.out.k1.at 0
        have hy1 := AA.out.k1.at 1
        simp only [List.getElem?_cons_succ, List.getElem?_cons_zero] at hy0 hy1
        have HA : Hid (w.heap.size ≤ A.heap.size) := AA.out.bel.size
        clear h1 h2 h3 hq hK SQ BA AC AC7 DS DS7 k7 hN7 hD
        gi_wp2_with fail
        have SQ2 := s_all1_seq (n - 1) b N L hL A AA.out.kk
        refine range_out (p0 := tw b N) (L := idx L) (encs := sEnc) (I := fun _ _ X => Below A.heap.size A X) (Ix := TlX A) (Ax := fun _ _ _ => True)
          rfl e20 SQ2 (brk_owes _ _ _ _ _ _ rfl) (tw b N) (fun _ h => h) (by rintro c (rfl | rfl); exact AA.out.kk.cap.lt; exact AA.out.kk.row.lt) (Below.refl _ _) ?done2 ?stop2
        case done2 =>
          rintro D2 q2 X hD2 hI hq2 hK2
          have AX := hid0 (AA.out.below hI)
          have DX : Hid (Dfs X w.heap.size (D2 :: D :: ds)) := (DA.out.below hI).cons (by have := HA.out; omega) hK2 (DA.out.all hD2)
          have RX : Hid (rI + 1 = ((r + 1 : Nat) : Int)) := by have := HRI.out; show rI + 1 = _; omega
          clear AA DA hI hK2 hq2 SQ2 hy0 hy1 hy7
          gi_wp2
          exact ⟨⟨D2 :: D :: ds, r + 1, rI + 1, _, _, _, _, _, _, _, _, _, _, _, _, _, _, _, _, _, _, _, _, _, _, _, _, _, _, _, _, _, _, _, _, _, _, _, _, _, _, _, _, _, _, rfl, RX, by have := HR.out; omega, by have := HR.out; simp; omega, DX, AX⟩, by have := HR.out; simp; omega⟩
        case stop2 =>
          rintro D2 c pre X hD2 hpre ⟨rfl, hI⟩ hK2
          have AX := hid0 (AA.out.below hI)
          have DX : Hid (Dfs X w.heap.size (D2 :: D :: ds)) := (DA.out.below hI).cons (by have := HA.out; omega) hK2 (DA.out.all hD2)
          have RX : Hid (rI + 1 = ((r + 1 : Nat) : Int)) := by have := HRI.out; show rI + 1 = _; omega
          clear AA DA hI hK2 hpre SQ2 hy0 hy1 hy7
          gi_wp2
          exact ⟨⟨D2 :: D :: ds, r + 1, rI + 1, _, _, _, _, _, _, _, _, _, _, _, _, _, _, _, _, _, _, _, _, _, _, _, _, _, _, _, _, _, _, _, _, _, _, _, _, _, _, _, _, _, _, rfl, RX, by have := HR.out; omega, by have := HR.out; simp; omega, DX, AX⟩, by have := HR.out; simp; omega⟩
theorem tells_any (b N : Nat) (v : Value) (L : List Int) (w : World) (hK : sKept w b N L) (hl : Lst w v L) (hT : Tab w) (hL : L.length ≤ 65536) (hin : ∀ (i : Nat) (x : Int), L[i]? = some x → in64 x) :
    Calls Tryd.prog 12 #[.agg #[.func (.func 20) #[] #[.pointer (some ⟨b, 0, none⟩)], v]] w fun e w' => e = .returned (.bool true) ∧ Below w.heap.size w w' :=
  callsIn_wide.1 (tells_in 20 (by omega) b N v L w hK hl hT hL hin)
end Go.Proofs.YtodlhclaboofiaaDoor
