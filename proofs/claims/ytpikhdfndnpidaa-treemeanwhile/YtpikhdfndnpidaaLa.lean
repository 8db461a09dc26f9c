/- The law's all: what All tells is what the reference holds, in three rounds. -/
import Derived.Test.YtpikhdfndnpidaaTn
import Derived.Test.YtpikhdfndnpidaaLb
set_option linter.unusedSimpArgs false
set_option linter.unusedVariables false
namespace Go.Proofs.Ytpikhdfndnpidaa
open Go.RowKit Go.Sort Go.Shelf
attribute [local go_sem] Oper.semAt_some wide_fn
attribute [local simp] wide_fn

theorem all_tell (t : At) : (t.tellN (fun _ => true)).map (fun x => x.2) = t.er.toL := by
  rw [At.tellN_er, PT.tell_eq (fun _ => true) (fun p q h m => rfl)]
  simp
theorem all_len (t : At) : (t.tellN (fun _ => true)).length = t.er.toL.length := by
  have := congrArg List.length (all_tell t)
  rwa [List.length_map] at this
/-- The records of the rounds over functions that have ended. -/
def Dfs (w : World) (lo : Nat) (l : List Nat) : Prop := l.Nodup ∧ ∀ D ∈ l, lo ≤ D ∧ w.heap[D]? = some (.deferred (some []))
theorem Dfs.below {w w' : World} {lo : Nat} {l : List Nat} (h : Dfs w lo l) (g : Below w.heap.size w w') : Dfs w' lo l := ⟨h.1, fun D hD => ⟨(h.2 D hD).1, (g.block D (lt_of_block (h.2 D hD).2)).trans (h.2 D hD).2⟩⟩
theorem Dfs.ch {w w' : World} {lo b : Nat} {l : List Nat} {t : TypeId} {m : List Value} (h : Dfs w lo l) (k : Bk w b t m) (g : w.grownBy w' (some b)) : Dfs w' lo l := ⟨h.1, fun D hD => ⟨(h.2 D hD).1, (g.block D (lt_of_block (h.2 D hD).2) (fun e => by
  have h1 := (h.2 D hD).2
  cases e
  unfold Bk at k
  rw [k] at h1
  cases h1)).trans (h.2 D hD).2⟩⟩
theorem Dfs.cons {w : World} {lo D : Nat} {l : List Nat} (h : Dfs w lo l) (hD : lo ≤ D) (hK : w.heap[D]? = some (.deferred (some []))) (hn : D ∉ l) : Dfs w lo (D :: l) :=
  ⟨List.nodup_cons.2 ⟨hn, h.1⟩, fun E hE => by
    rcases List.mem_cons.1 hE with rfl | hE
    · exact ⟨hD, hK⟩
    · exact h.2 E hE⟩
theorem TreeIs.oth {w w' : World} {T b : Nat} {t : At} {l : List Value} {ty : TypeId} (h : TreeIs w T t) (k : Bk w b ty l) (n1 : ty ≠ 64) (n2 : ty ≠ 80) (g : w.grownBy w' (some b)) : TreeIs w' T t :=
  ⟨h.blk.same (g.block T h.blk.lt (fun e => h.blk.ne k n1.symm (by cases e; rfl))), h.tr.nk (fun c m hc => hc.same (g.block c hc.lt (fun e => hc.ne k n2.symm (by cases e; rfl)))), h.srt, h.bal, h.rg, h.few⟩
theorem Bk.oth {w w' : World} {a b : Nat} {t u : TypeId} {l m : List Value} (h : Bk w a t l) (k : Bk w b u m) (n : t ≠ u) (g : w.grownBy w' (some b)) : Bk w' a t l :=
  h.same (g.block a h.lt (fun e => h.ne k n (by cases e; rfl)))
/-- What stands through all rounds. -/
structure AllC (w : World) (T base R : Nat) (t : At) (b3 b4 bt : Nat) (W : World) : Prop where
  one : TreeIs W T t
  ref : RefIs W base R t.er.toL
  k3 : Bk W b3 25 [.pointer (some ⟨R, 0, none⟩)]
  k4 : Bk W b4 4 [.bool false]
  kt : Bk W bt 23 [.pointer (some ⟨T, 0, none⟩)]
  bel : Below w.heap.size w W
theorem AllC.below {w : World} {T base R : Nat} {t : At} {b3 b4 bt : Nat} {W W' : World} (h : AllC w T base R t b3 b4 bt W) (g : Below W.heap.size W W') : AllC w T base R t b3 b4 bt W' :=
  ⟨h.one.below g, h.ref.below g, h.k3.mono g h.k3.lt, h.k4.mono g h.k4.lt, h.kt.mono g h.kt.lt, h.bel.trans (g.mono h.bel.size)⟩
theorem AllC.ch {w : World} {T base R : Nat} {t : At} {b3 b4 bt b : Nat} {W W' : World} {l : List Value} (h : AllC w T base R t b3 b4 bt W) (k : Bk W b 3 l) (hb : w.heap.size ≤ b) (g : W.grownBy W' (some b)) : AllC w T base R t b3 b4 bt W' :=
  ⟨h.one.oth k (by decide) (by decide) g, h.ref.ch k (by decide) (by decide) (by decide) g, h.k3.oth k (by decide) g, h.k4.oth k (by decide) g, h.kt.oth k (by decide) g, below_grown h.bel g (fun r e => by cases e; exact hb) h.bel.size⟩
def AllInv (w : World) (T base R : Nat) (t : At) (b3 b4 bt : Nat) (a' : Act) (W : World) : Prop :=
  ∃ (ds : List Nat) (b6 : Nat) (u7 u8 u9 u10 u11 u12 u13 u14 u15 u16 u17 u18 u19 u20 u21 u22 u23 u24 u25 u26 u27 u28 u29 u30 u31 u32 u33 u34 u35 u36 u37 u38 u39 u40 u41 u42 u43 u44 u45 u46 u47 u48 u49 u50 u51 u52 u53 u54 u55 u56 u57 u58 u59 u60 u61 u62 u63 u64 u65 u66 u67 u68 u69 : Value), a' = { tmps := (.pointer (some ⟨T, 0, none⟩) :: .pointer (some ⟨R, 0, none⟩) :: undef :: .pointer (some ⟨b3, 0, none⟩) :: .pointer (some ⟨b4, 0, none⟩) :: .func (.func 44) #[] #[.pointer (some ⟨bt, 0, none⟩)] :: .pointer (some ⟨b6, 0, none⟩) :: u7 :: u8 :: u9 :: u10 :: u11 :: u12 :: u13 :: u14 :: u15 :: u16 :: u17 :: u18 :: u19 :: u20 :: u21 :: u22 :: u23 :: u24 :: u25 :: u26 :: u27 :: u28 :: u29 :: u30 :: u31 :: u32 :: u33 :: u34 :: u35 :: u36 :: u37 :: u38 :: u39 :: u40 :: u41 :: u42 :: u43 :: u44 :: u45 :: u46 :: u47 :: u48 :: u49 :: u50 :: u51 :: u52 :: u53 :: u54 :: u55 :: u56 :: u57 :: u58 :: u59 :: u60 :: u61 :: u62 :: u63 :: u64 :: u65 :: u66 :: u67 :: u68 :: u69 :: []).toArray, defers := ds.map (fun D => { target := .collected D, args := #[] }) } ∧ ds.length ≤ 3 ∧ Hid (Dfs W w.heap.size ds) ∧ Bk W b6 3 [.int .i64 (ds.length : Nat)] ∧ w.heap.size ≤ b6 ∧ Hid (AllC w T base R t b3 b4 bt W)
/-- What stands within a round: n numbers were told, W0 the world that it began in. -/
def AllI (W0 : World) (b7 : Nat) (rd : Int) (p : Nat → Prop) (pre : List Nd) (W : World) : Prop := Bk W b7 3 [.int .i64 (pre.length : Nat)] ∧ ¬ p b7 ∧ W0.grownBy W (some b7) ∧ (rd = 1 → pre.length < 2)
def AllX (W0 : World) (b7 : Nat) (rd : Int) (c : Code) (pre : List Nd) (W : World) : Prop := Bk W b7 3 [.int .i64 (pre.length : Nat)] ∧ W0.grownBy W (some b7) ∧ rd = 1 ∧ c = .exit 2
theorem grownBy_trans {A B C : World} {r r2 : Option Nat} (h : A.grownBy B r) (k : B.grownBy C r2) (hr : ∀ x, r2 = some x → r = some x ∨ A.heap.size ≤ x) : A.grownBy C r :=
  ⟨k.os.trans h.os, k.tape.trans h.tape, k.output.trans h.output, Nat.le_trans h.size k.size, fun b hb hn => (k.block b (Nat.lt_of_lt_of_le hb h.size) (fun e => (hr b e.symm).elim (fun e' => hn e'.symm) (fun h => by omega))).trans (h.block b hb hn)⟩
theorem alli_con {W0 : World} {b7 B : Nat} {rd : Int} (hB : W0.heap.size ≤ B) (h7 : b7 < W0.heap.size) : Con B (AllI W0 b7 rd) := by
  refine ⟨?_, ?_, fun p q s A ⟨h1, h2, h3, h4⟩ hb => ⟨h1, fun h => h2 (hb _ h), h3, h4⟩⟩
  · rintro p s A A' row ⟨h1, h2, h3, h4⟩ hg hr
    refine ⟨h1.same (hg.block _ h1.lt (fun e => by have := (hr _ e.symm).1; omega)), h2, grownBy_trans h3 hg (fun x e => .inr (by have := (hr x e).1; omega)), h4⟩
  · rintro p s A b ⟨h1, h2, h3, h4⟩ hb
    refine ⟨h1, ?_, h3, h4⟩
    rintro (h | h)
    · exact h2 h
    · have := h1.lt; omega
theorem allx_con {W0 : World} {b7 B : Nat} {rd : Int} (hB : W0.heap.size ≤ B) (h7 : b7 < W0.heap.size) (c : Code) : OwnFrom B (AllX W0 b7 rd c) := by
  rintro s A A' row ⟨h1, h3, h4⟩ hg hr
  exact ⟨h1.same (hg.block _ h1.lt (fun e => by have := (hr _ e.symm).1; omega)), grownBy_trans h3 hg (fun x e => .inr (by have := (hr x e).1; omega)), h4⟩
theorem keepsFrom_set {B : Nat} {W : World} {b i : Nat} (hb : b < B) (v : Value) : KeepsFrom B W (W.setCell ⟨b, i, none⟩ v) :=
  ⟨by simp [World.setCell], fun k o hk h0 ho => (Below.heap_setCell _ _ _ _ (show k ≠ b by omega)).trans h0⟩
set_option maxRecDepth 100000 in
set_option maxHeartbeats 8000000 in
theorem lall_in (n : Nat) (hn : 14 ≤ n) (T base R : Nat) (t : At) (w : World) (hT : TreeIs w T t) (hR : RefIs w base R t.er.toL) :
    CallsIn Fence.wide n Try.prog 12 #[.pointer (some ⟨T, 0, none⟩), .pointer (some ⟨R, 0, none⟩)] w fun e w' => e = .returned (.bool true) ∧ Below w.heap.size w w' := by
  have k3 := (Bk.new w 25 [.pointer (some ⟨R, 0, none⟩)]).alloc (.cells #[.bool false] 4)
  have k4 := Bk.new (w.alloc (.cells #[.pointer (some ⟨R, 0, none⟩)] 25)) 4 [.bool false]
  have g0 := ((Gr.refl w).alloc (.cells #[.pointer (some ⟨R, 0, none⟩)] 25)).alloc (.cells #[.bool false] 4)
  rw [World.size_alloc] at k4
  refine callsIn_of_wp_marks Try.func12 rfl trivial ?_ rfl
  simp only [Try.ntmps12, List.size_toArray, List.length_cons, List.length_nil, Nat.reduceAdd, Nat.reduceSub, Array.replicate_succ, Array.replicate_zero, List.push_toArray, List.append_toArray, List.nil_append, List.cons_append]
  have h1n : 1 ≤ n := by omega
  gi_wp2_with fail
  refine (callsIn_wide.2 (all_any _ _)).mono ?_
  rintro e w1 ⟨bt, rfl, kt, g1⟩
  replace k3 := k3.gr g1
  replace k4 := k4.gr g1
  replace g0 := g0.trans g1
  clear g1
  obtain ⟨b4, e4⟩ : ∃ b4, b4 = w.heap.size + 1 := ⟨_, rfl⟩
  obtain ⟨b3, e3⟩ : ∃ b3, b3 = w.heap.size := ⟨_, rfl⟩
  rw [← e4] at k4 ⊢
  rw [← e3] at k3 ⊢
  have hb4 : w.heap.size ≤ b4 := by omega
  clear e3 e4
  have AC : Hid (AllC w T base R t b3 b4 bt w1) := ⟨hT.gr g0, hR.gr g0, k3, k4, kt, g0.below⟩
  have hw1 : w.heap.size ≤ w1.heap.size := g0.size
  clear hT hR k3 k4 kt g0
  have hE := run_eqf2 44
  dsimp only
  gi_wp2_with fail
  clear hE
  refine wpIn_loop (AllInv w T base R t b3 b4 bt) (fun a' _ => 3 - a'.defers.length) ?start ?round
  case start =>
    have k6 := Bk.new w1 3 [.int .i64 0]
    have g6 := (Gr.refl w1).alloc (.cells #[.int .i64 0] 3)
    exact ⟨[], _, _, _, _, _, _, _, _, _, _, _, _, _, _, _, _, _, _, _, _, _, _, _, _, _, _, _, _, _, _, _, _, _, _, _, _, _, _, _, _, _, _, _, _, _, _, _, _, _, _, _, _, _, _, _, _, _, _, _, _, _, _, _, _, rfl, by simp, ⟨List.nodup_nil, fun D h => (by cases h)⟩, k6, hw1, AC.out.below g6.below⟩
  case round =>
    clear AC hw1
    rintro a' W ⟨ds, b6, u7, u8, u9, u10, u11, u12, u13, u14, u15, u16, u17, u18, u19, u20, u21, u22, u23, u24, u25, u26, u27, u28, u29, u30, u31, u32, u33, u34, u35, u36, u37, u38, u39, u40, u41, u42, u43, u44, u45, u46, u47, u48, u49, u50, u51, u52, u53, u54, u55, u56, u57, u58, u59, u60, u61, u62, u63, u64, u65, u66, u67, u68, u69, rfl, hds, DS, k6, hb6, AC⟩
    dsimp only
    by_cases c3 : ds.length = 3
    · have c3i : ((ds.length : Nat) : Int) = 3 := by omega
      rw [c3i] at k6
      have y6 := k6.one
      obtain ⟨D1, D2, D3, rfl⟩ : ∃ a b c, ds = [a, b, c] := by
        match ds, c3 with
        | [a, b, c], _ => exact ⟨a, b, c, rfl⟩
      clear c3 c3i
      have f4 := AC.out.k4.frozen 0
      have y4 := AC.out.k4.one
      dsimp only [List.map]
      gi_wp2
      have hne : ∀ D ∈ [D1, D2, D3], D ≠ b4 := fun D hD e => by
        have h := (DS.out.2 D hD).2
        have k := AC.out.k4
        rw [e] at h
        unfold Bk at k
        rw [k] at h
        cases h
      have q1 : (W.setCell ⟨b4, 0, none⟩ (.bool true)).heap[D1]? = some (.deferred (some [])) := (Below.heap_setCell _ _ _ _ (hne D1 (by simp))).trans (DS.out.2 D1 (by simp)).2
      have q2 : (W.setCell ⟨b4, 0, none⟩ (.bool true)).heap[D2]? = some (.deferred (some [])) := (Below.heap_setCell _ _ _ _ (hne D2 (by simp))).trans (DS.out.2 D2 (by simp)).2
      have q3 : (W.setCell ⟨b4, 0, none⟩ (.bool true)).heap[D3]? = some (.deferred (some [])) := (Below.heap_setCell _ _ _ _ (hne D3 (by simp))).trans (DS.out.2 D3 (by simp)).2
      have k4' := AC.out.k4.set 0 (.bool true)
      have hB : Below w.heap.size w (W.setCell ⟨b4, 0, none⟩ (.bool true)) := AC.out.bel.setCell (p := ⟨b4, 0, none⟩) hb4 (.bool true)
      obtain ⟨hnd, hd⟩ := DS.out
      have l1 := (hd D1 (by simp)).1
      have l2 := (hd D2 (by simp)).1
      have l3 := (hd D3 (by simp)).1
      have n1 := hne D1 (by simp)
      have n2 := hne D2 (by simp)
      have n3 := hne D3 (by simp)
      simp only [List.nodup_cons, List.mem_cons, List.not_mem_nil, or_false, not_or, not_false_eq_true, List.nodup_nil, and_true] at hnd
      obtain ⟨⟨d12, d13⟩, d23⟩ := hnd
      clear y4 f4 y6 k6 AC DS hd hne hds
      generalize W.setCell ⟨b4, 0, none⟩ (.bool true) = X0 at *
      have r2 : (X0.putObj D1 (.deferred none)).heap[D2]? = some (.deferred (some [])) := (World.putObj_heap_other (fun e => d12 e.symm)).trans q2
      have r3 : (X0.putObj D1 (.deferred none)).heap[D3]? = some (.deferred (some [])) := (World.putObj_heap_other (fun e => d13 e.symm)).trans q3
      have s3 : ((X0.putObj D1 (.deferred none)).putObj D2 (.deferred none)).heap[D3]? = some (.deferred (some [])) := (World.putObj_heap_other (fun e => d23 e.symm)).trans r3
      have k5 : Bk (((X0.putObj D1 (.deferred none)).putObj D2 (.deferred none)).putObj D3 (.deferred none)) b4 4 [.bool true] :=
        ((World.putObj_heap_other (fun e => n3 e.symm)).trans ((World.putObj_heap_other (fun e => n2 e.symm)).trans (World.putObj_heap_other (fun e => n1 e.symm)))).trans k4'
      have q0 := k5.one
      refine ⟨by simp, .inl ⟨_, _, rfl, run_takeDeferred q1, ?_⟩⟩
      refine ⟨by simp, .inl ⟨_, _, rfl, run_takeDeferred r2, ?_⟩⟩
      refine ⟨by simp, .inl ⟨_, _, rfl, run_takeDeferred s3, ?_⟩⟩
      exact ⟨.bool true, by simp [results, Try.results12, go_sem, q0], rfl, ((hB.trans (belowK_b (w := w) (Nat.le_refl _) X0 D1 _ (.deferred none) l1 q1 rfl rfl)).trans (belowK_b (w := w) (Nat.le_refl _) _ D2 _ (.deferred none) l2 r2 rfl rfl)).trans (belowK_b (w := w) (Nat.le_refl _) _ D3 _ (.deferred none) l3 s3 rfl rfl)⟩
    · have hds2 : ds.length < 3 := by omega
      obtain ⟨rd, hrd⟩ : ∃ rd : Int, rd = ((ds.length : Nat) : Int) := ⟨_, rfl⟩
      rw [← hrd] at k6
      have y6 := k6.one
      have hlt3 : rd < 3 := by omega
      have HRD := hid0 hrd
      have HDL := hid0 hds2
      clear hrd hds2 c3 hds
      gi_wp2_with fail
      have g7 := (Gr.refl W).alloc (.cells #[.int .i64 0] 3)
      have k7 := Bk.new W 3 [.int .i64 0]
      have AC7 := hid0 (AC.out.below g7.below)
      have DS7 := hid0 (DS.out.below g7.below)
      have k67 := k6.gr g7
      have hs7 : (W.alloc (.cells #[.int .i64 0] 3)).heap.size = W.heap.size + 1 := by simp
      have hwW : w.heap.size ≤ W.heap.size := AC.out.bel.size
      generalize W.alloc (.cells #[.int .i64 0] 3) = W0 at *
      have hb6l : b6 < W.heap.size := k6.lt
      clear y6 k6
      have HL := hid0 (all_tell t)
      have HLn := hid0 (all_len t)
      have SQ := all1_seq (n - 1) bt (by omega) (.pointer (some ⟨T, 0, none⟩)) (t.tellN (fun _ => true)) W0 (.yes AC7.out.one) AC7.out.kt
      have hfew := AC7.out.one.few
      generalize t.tellN (fun _ => true) = L at *
      have e44 : ∀ args w, (callFunc 44 args).run Try.prog w = .ok (.enter 44 args) w := enters_of Try.func44 (by kernel_rfl) rfl
      have h2n : 1 ≤ n - 1 - 1 := by omega
      refine range_out (p0 := isNode W0) (L := L) (encs := aEnc) (I := AllI W0 W.heap.size rd) (Ix := AllX W0 W.heap.size rd)
        (Ax := fun x a' A => ∃ b9, a' = { tmps := (.pointer (some ⟨T, 0, none⟩) :: .pointer (some ⟨R, 0, none⟩) :: undef :: .pointer (some ⟨b3, 0, none⟩) :: .pointer (some ⟨b4, 0, none⟩) :: .func (.func 44) #[] #[.pointer (some ⟨bt, 0, none⟩)] :: .pointer (some ⟨b6, 0, none⟩) :: .pointer (some ⟨W.heap.size, 0, none⟩) :: .int .u32 x.2.1 :: .pointer (some ⟨b9, 0, none⟩) :: u10 :: u11 :: u12 :: u13 :: .int .i64 rd :: .bool true :: u16 :: u17 :: .func (.func 44) #[] #[.pointer (some ⟨bt, 0, none⟩)] :: .int .u32 x.2.1 :: bv x.2.2 :: u21 :: u22 :: u23 :: u24 :: u25 :: u26 :: u27 :: u28 :: u29 :: u30 :: u31 :: u32 :: u33 :: u34 :: u35 :: u36 :: u37 :: u38 :: u39 :: u40 :: u41 :: u42 :: u43 :: u44 :: u45 :: u46 :: u47 :: u48 :: u49 :: u50 :: u51 :: u52 :: u53 :: u54 :: u55 :: u56 :: u57 :: u58 :: u59 :: u60 :: u61 :: u62 :: u63 :: u64 :: u65 :: u66 :: u67 :: u68 :: u69 :: []).toArray, defers := [] } ∧ Bk A b9 36 [.int .i32 x.2.2.1, .int .i32 x.2.2.2.1, .int .i32 x.2.2.2.2.1, .int .i32 x.2.2.2.2.2])
        rfl e44 SQ ?owes (isNode W0) (fun _ h => h) (fun b hb => hb.lt) ?start ?done ?stop
      case start =>
        refine ⟨k7, fun hN => ?_, ⟨rfl, rfl, rfl, Nat.le_refl _, fun b hb _ => rfl⟩, fun _ => by simp⟩
        obtain ⟨l, hl⟩ := hN
        exact k7.ne hl (by decide) rfl
      case owes =>
        refine ⟨alli_con (Nat.le_refl _) (by omega), allx_con (Nat.le_refl _) (by omega), ?_, fun _ => rfl, ?_, ?_⟩
        · rintro x a' _ X Y row ⟨b9, rfl, k9⟩ hg hr
          refine ⟨b9, rfl, k9.same (hg.block b9 k9.lt (fun e => ?_))⟩
          obtain ⟨_, o, ho, hc⟩ := hr b9 e.symm
          unfold Bk at k9
          rw [k9] at ho
          cases ho
          cases hc
        · rintro l p pre x A K hp hpb hI hsA hK
          have g9 := (Gr.refl A).alloc (.cells #[.int .i32 x.2.2.1, .int .i32 x.2.2.2.1, .int .i32 x.2.2.2.2.1, .int .i32 x.2.2.2.2.2] 36)
          gi_wp2
          exact hK _ _ (g9.from _) (Kp.gr hpb g9) ((alli_con (Nat.le_refl _) (by omega)).gr hI g9) ⟨_, rfl, Bk.new A 36 _⟩
        · rintro l p pre x a' A hl ⟨r, hr⟩ hp hpb ⟨h1, h2, h3, h4⟩ ⟨b9, rfl, k9⟩ hpre
          have AA := hid0 (AC7.out.ch k7 hwW h3)
          have hlk : t.er.toL[pre.length]? = some x.2 := by
            obtain ⟨s, hs⟩ := hpre
            rw [← HL.out, List.getElem?_map, ← hs]
            simp
          obtain ⟨ao, ca, r0, hid1⟩ := AA.out.ref.id
          obtain ⟨bo, cb, r1, hbx1⟩ := AA.out.ref.box
          obtain ⟨gi, rfl, i0⟩ := hid1 _ _ hlk
          obtain ⟨gb, rfl, x0, x1, x2, x3⟩ := hbx1 _ _ hlk
          have hkN : pre.length < t.er.toL.length := (List.getElem?_eq_some_iff.1 hlk).1
          have HP : Hid ((pre ++ [x]).length = pre.length + 1) := by unfold Hid; simp
          have k6A : Bk A b6 3 [.int .i64 rd] := k67.same (h3.block b6 k67.lt (fun e => by cases e; omega))
          clear hid1 hbx1 hlk
          have hA3 := AA.out.k3
          obtain ⟨k, hk⟩ : ∃ k, k = pre.length := ⟨_, rfl⟩
          rw [← hk] at h1 h4 i0 x0 x1 x2 x3 hkN HP
          obtain ⟨NN, hNN⟩ : ∃ NN, NN = t.er.toL.length := ⟨_, rfl⟩
          rw [← hNN] at r0 r1 hkN hfew
          have HFW := hid0 hfew
          clear hk hNN hfew hpre
          have hki : (k : Int) < (NN : Int) := by omega
          have hkd : decide (NN ≤ k) = false := by simp; omega
          have hke : ¬ NN ≤ k := by omega
          obtain ⟨kn, hkn⟩ : ∃ kn : Int, kn = ((k + 1 : Nat) : Int) := ⟨_, rfl⟩
          have hw1 : wrap64 ((k : Int) + 1) = kn := by have := HFW.out; unfold wrap64; omega
          have HKN := hid0 hkn
          clear hkn
          obtain ⟨y0, y1, y2, y3⟩ := k9.four
          have z7 := fun m => below_cell h1.one ((Gr.refl A).drewN m).below
          have z3 := fun m => below_cell hA3.one ((Gr.refl A).drewN m).below
          have z0 := fun m => below_cell r0 ((Gr.refl A).drewN m).below
          have z1 := fun m => below_cell r1 ((Gr.refl A).drewN m).below
          have zi := fun m => below_cell i0 ((Gr.refl A).drewN m).below
          have v0 := fun m => below_cell x0 ((Gr.refl A).drewN m).below
          have v1 := fun m => below_cell x1 ((Gr.refl A).drewN m).below
          have v2 := fun m => below_cell x2 ((Gr.refl A).drewN m).below
          have v3 := fun m => below_cell x3 ((Gr.refl A).drewN m).below
          have t0 := fun m => below_cell y0 ((Gr.refl A).drewN m).below
          have t1 := fun m => below_cell y1 ((Gr.refl A).drewN m).below
          have t2 := fun m => below_cell y2 ((Gr.refl A).drewN m).below
          have t3 := fun m => below_cell y3 ((Gr.refl A).drewN m).below
          clear r0 r1 i0 x0 x1 x2 x3 y0 y1 y2 y3 hA3 k9
          gi_wp2_with fail
          refine region_head_lit 28 (by kernel_rfl) (by kernel_rfl) (by simp) (by kernel_rfl) ?_
          simp only [List.take_succ_cons, List.take_zero, List.drop_succ_cons, List.drop_zero]
          repeat (gi_big_quiet_step (fail))
          refine wpQuietIn_nil ?_
          intro _ hw'
          obtain ⟨mm, rfl⟩ := hw'
          have g1 : Gr A (A.drewN mm) := (Gr.refl A).drewN mm
          have q7 := h1.gr g1
          have q6 := k6A.gr g1
          have gg : W0.grownBy (A.drewN mm) (some W.heap.size) := grownBy_trans h3 g1.grownBy (fun x e => by cases e)
          have kf : KeepsFrom W0.heap.size A ((A.drewN mm).setCell ⟨W.heap.size, 0, none⟩ (.int .i64 kn)) := (g1.from _).trans (keepsFrom_set (by omega) _)
          have kp : Kp p A ((A.drewN mm).setCell ⟨W.heap.size, 0, none⟩ (.int .i64 kn)) := (Kp.gr hpb g1).t (Kp.set h2 _)
          clear z7 z3 z0 z1 zi v0 v1 v2 v3 t0 t1 t2 t3 g1 h1 k6A h3
          generalize A.drewN mm = A1 at *
          have s7 := q7.set 0 (.int .i64 kn)
          have s6 := q6.other (a := ⟨W.heap.size, 0, none⟩) (show b6 ≠ W.heap.size by omega) (.int .i64 kn)
          have c7 := q7.one
          have f7 := q7.frozen 0
          have c6 := s6.one
          have d7 : (A1.setCell ⟨W.heap.size, 0, none⟩ (.int .i64 kn)).cell? ⟨W.heap.size, 0, none⟩ = some (.int .i64 kn) := s7.one
          have gf : W0.grownBy (A1.setCell ⟨W.heap.size, 0, none⟩ (.int .i64 kn)) (some W.heap.size) := grownBy_trans gg (ch_set A1 W.heap.size 0 _) (fun x e => .inl e)
          by_cases c1 : rd = 1
          · have hk2 := h4 c1
            have c1' : (rd == 1) = true := by simp [c1]
            by_cases c2 : k = 1
            · have c2' : (kn == 2) = true := by rw [HKN.out, c2]; rfl
              have C1 := hid0 c1
              clear c1 c2 h4 hk2
              gi_wp2
              exact ⟨kf, by rw [HP.out, ← HKN.out]; exact s7, gf, C1.out, rfl⟩
            · have c0 : k = 0 := by omega
              have C0 := hid0 c0
              have c2' : (kn == 2) = false := by rw [HKN.out, c0]; rfl
              clear c1 c2 c0 h4 hk2
              gi_wp2
              exact ⟨kf, kp, by rw [HP.out, ← HKN.out]; exact s7, h2, gf, fun _ => by rw [HP.out, C0.out]; omega⟩
          · have c1' : (rd == 1) = false := by simp [c1]
            gi_wp2
            exact ⟨kf, kp, by rw [HP.out, ← HKN.out]; exact s7, h2, gf, fun e => absurd e c1⟩
      case done =>
        rintro D q A hD ⟨h1, h2, h3, h4⟩ hq hK
        obtain ⟨kk, hkk⟩ : ∃ kk, kk = L.length := ⟨_, rfl⟩
        have hcnt : (rd ≠ 1 → kk = t.er.toL.length) ∧ t.er.toL.length ≤ 65536 := ⟨fun _ => by rw [hkk, HLn.out], hfew⟩
        rw [← hkk] at h1
        clear hkk h4 h2 hq HL HLn
        have AA := hid0 (AC7.out.ch k7 hwW h3)
        have DA : Hid (Dfs A w.heap.size (D :: ds)) := (DS7.out.ch k7 h3).cons (by omega) hK (fun hm => by have := lt_of_block (DS.out.2 D hm).2; omega)
        have k6A : Bk A b6 3 [.int .i64 rd] := k67.same (h3.block b6 k67.lt (fun e => by cases e; omega))
        obtain ⟨ao, ca, r0, hid1⟩ := AA.out.ref.id
        have hA3 := AA.out.k3
        obtain ⟨NN, hNN⟩ : ∃ NN, NN = t.er.toL.length := ⟨_, rfl⟩
        rw [← hNN] at r0 hcnt
        clear hNN hid1 hfew hK SQ
        obtain ⟨rn, hrn⟩ : ∃ rn : Int, rn = rd + 1 := ⟨_, rfl⟩
        have hwr : wrap64 (rd + 1) = rn := by have := HRD.out; have := HDL.out; unfold wrap64; omega
        have HRN := hid0 hrn
        clear hrn
        have hwN : wrap64 (NN : Int) = (NN : Int) := by have := hcnt.2; unfold wrap64; omega
        have z7 := fun m => below_cell h1.one ((Gr.refl A).drewN m).below
        have z6 := fun m => below_cell k6A.one ((Gr.refl A).drewN m).below
        have z3 := fun m => below_cell hA3.one ((Gr.refl A).drewN m).below
        have z0 := fun m => below_cell r0 ((Gr.refl A).drewN m).below
        clear r0 hA3
        have FIN : Hid (∀ m, AllC w T base R t b3 b4 bt ((A.drewN m).alloc (.cells #[.int .i64 rn] 3)) ∧ Dfs ((A.drewN m).alloc (.cells #[.int .i64 rn] 3)) w.heap.size (D :: ds) ∧ Bk ((A.drewN m).alloc (.cells #[.int .i64 rn] 3)) (A.drewN m).heap.size 3 [.int .i64 (((D :: ds).length : Nat) : Int)] ∧ w.heap.size ≤ (A.drewN m).heap.size) := fun m => by
          have gA : Gr A ((A.drewN m).alloc (.cells #[.int .i64 rn] 3)) := ((Gr.refl A).drewN m).alloc _
          refine ⟨AA.out.below gA.below, DA.out.below gA.below, ?_, Nat.le_trans AA.out.bel.size ((Gr.refl A).drewN m).size⟩
          have e : (((D :: ds).length : Nat) : Int) = rn := by rw [HRN.out, HRD.out]; simp
          rw [e]
          exact Bk.new (A.drewN m) 3 [.int .i64 rn]
        clear AA DA AC AC7 DS DS7 k7 h1 h3 k67 k6A hlt3
        by_cases c1 : rd = 1
        · have c1b : decide (rd = 1) = true := by simp [c1]
          have c1c : (rd == 1) = true := by simp [c1]
          have c1d : (rd != 1) = false := by simp [c1]
          clear c1
          gi_wp2_with fail
          refine region_head_lit 10 (by kernel_rfl) (by kernel_rfl) (by simp) (by kernel_rfl) ?_
          simp only [List.take_succ_cons, List.take_zero, List.drop_succ_cons, List.drop_zero]
          repeat (gi_big_quiet_step (fail))
          refine wpQuietIn_nil ?_
          intro _ hw'
          obtain ⟨mm, rfl⟩ := hw'
          have FF := hid0 (FIN.out mm)
          have c6 := z6 mm
          clear FIN z7 z6 z3 z0
          generalize A.drewN mm = A1 at *
          gi_wp2
          exact ⟨⟨D :: ds, _, _, _, _, _, _, _, _, _, _, _, _, _, _, _, _, _, _, _, _, _, _, _, _, _, _, _, _, _, _, _, _, _, _, _, _, _, _, _, _, _, _, _, _, _, _, _, _, _, _, _, _, _, _, _, _, _, _, _, _, _, _, _, _, rfl, by have := HDL.out; simp; omega, FF.out.2.1, FF.out.2.2.1, FF.out.2.2.2, FF.out.1⟩, by have := HDL.out; simp; omega⟩
        · have c1b : decide (rd = 1) = false := by simp [c1]
          have c1c : (rd == 1) = false := by simp [c1]
          have c1d : (rd != 1) = true := by simp [c1]
          have hkN := hcnt.1 c1
          subst hkN
          gi_wp2_with fail
          refine region_head_lit 10 (by kernel_rfl) (by kernel_rfl) (by simp) (by kernel_rfl) ?_
          simp only [List.take_succ_cons, List.take_zero, List.drop_succ_cons, List.drop_zero]
          repeat (gi_big_quiet_step (fail))
          refine wpQuietIn_nil ?_
          intro _ hw'
          obtain ⟨mm, rfl⟩ := hw'
          have FF := hid0 (FIN.out mm)
          have c6 := z6 mm
          clear FIN z7 z6 z3 z0
          generalize A.drewN mm = A1 at *
          gi_wp2
          exact ⟨⟨D :: ds, _, _, _, _, _, _, _, _, _, _, _, _, _, _, _, _, _, _, _, _, _, _, _, _, _, _, _, _, _, _, _, _, _, _, _, _, _, _, _, _, _, _, _, _, _, _, _, _, _, _, _, _, _, _, _, _, _, _, _, _, _, _, _, _, rfl, by have := HDL.out; simp; omega, FF.out.2.1, FF.out.2.2.1, FF.out.2.2.2, FF.out.1⟩, by have := HDL.out; simp; omega⟩
      case stop =>
        rintro D c pre A hD hpre ⟨h1, h3, hrd1, rfl⟩ hK
        obtain ⟨kk, hkk⟩ : ∃ kk, kk = pre.length := ⟨_, rfl⟩
        have hcnt : (rd ≠ 1 → kk = t.er.toL.length) ∧ t.er.toL.length ≤ 65536 := ⟨fun h => absurd hrd1 h, hfew⟩
        rw [← hkk] at h1
        clear hkk hpre hrd1 HL HLn
        have AA := hid0 (AC7.out.ch k7 hwW h3)
        have DA : Hid (Dfs A w.heap.size (D :: ds)) := (DS7.out.ch k7 h3).cons (by omega) hK (fun hm => by have := lt_of_block (DS.out.2 D hm).2; omega)
        have k6A : Bk A b6 3 [.int .i64 rd] := k67.same (h3.block b6 k67.lt (fun e => by cases e; omega))
        obtain ⟨ao, ca, r0, hid1⟩ := AA.out.ref.id
        have hA3 := AA.out.k3
        obtain ⟨NN, hNN⟩ : ∃ NN, NN = t.er.toL.length := ⟨_, rfl⟩
        rw [← hNN] at r0 hcnt
        clear hNN hid1 hfew hK SQ
        obtain ⟨rn, hrn⟩ : ∃ rn : Int, rn = rd + 1 := ⟨_, rfl⟩
        have hwr : wrap64 (rd + 1) = rn := by have := HRD.out; have := HDL.out; unfold wrap64; omega
        have HRN := hid0 hrn
        clear hrn
        have hwN : wrap64 (NN : Int) = (NN : Int) := by have := hcnt.2; unfold wrap64; omega
        have z7 := fun m => below_cell h1.one ((Gr.refl A).drewN m).below
        have z6 := fun m => below_cell k6A.one ((Gr.refl A).drewN m).below
        have z3 := fun m => below_cell hA3.one ((Gr.refl A).drewN m).below
        have z0 := fun m => below_cell r0 ((Gr.refl A).drewN m).below
        clear r0 hA3
        have FIN : Hid (∀ m, AllC w T base R t b3 b4 bt ((A.drewN m).alloc (.cells #[.int .i64 rn] 3)) ∧ Dfs ((A.drewN m).alloc (.cells #[.int .i64 rn] 3)) w.heap.size (D :: ds) ∧ Bk ((A.drewN m).alloc (.cells #[.int .i64 rn] 3)) (A.drewN m).heap.size 3 [.int .i64 (((D :: ds).length : Nat) : Int)] ∧ w.heap.size ≤ (A.drewN m).heap.size) := fun m => by
          have gA : Gr A ((A.drewN m).alloc (.cells #[.int .i64 rn] 3)) := ((Gr.refl A).drewN m).alloc _
          refine ⟨AA.out.below gA.below, DA.out.below gA.below, ?_, Nat.le_trans AA.out.bel.size ((Gr.refl A).drewN m).size⟩
          have e : (((D :: ds).length : Nat) : Int) = rn := by rw [HRN.out, HRD.out]; simp
          rw [e]
          exact Bk.new (A.drewN m) 3 [.int .i64 rn]
        clear AA DA AC AC7 DS DS7 k7 h1 h3 k67 k6A hlt3
        by_cases c1 : rd = 1
        · have c1b : decide (rd = 1) = true := by simp [c1]
          have c1c : (rd == 1) = true := by simp [c1]
          have c1d : (rd != 1) = false := by simp [c1]
          clear c1
          gi_wp2_with fail
          refine region_head_lit 10 (by kernel_rfl) (by kernel_rfl) (by simp) (by kernel_rfl) ?_
          simp only [List.take_succ_cons, List.take_zero, List.drop_succ_cons, List.drop_zero]
          repeat (gi_big_quiet_step (fail))
          refine wpQuietIn_nil ?_
          intro _ hw'
          obtain ⟨mm, rfl⟩ := hw'
          have FF := hid0 (FIN.out mm)
          have c6 := z6 mm
          clear FIN z7 z6 z3 z0
          generalize A.drewN mm = A1 at *
          gi_wp2
          exact ⟨⟨D :: ds, _, _, _, _, _, _, _, _, _, _, _, _, _, _, _, _, _, _, _, _, _, _, _, _, _, _, _, _, _, _, _, _, _, _, _, _, _, _, _, _, _, _, _, _, _, _, _, _, _, _, _, _, _, _, _, _, _, _, _, _, _, _, _, _, rfl, by have := HDL.out; simp; omega, FF.out.2.1, FF.out.2.2.1, FF.out.2.2.2, FF.out.1⟩, by have := HDL.out; simp; omega⟩
        · have c1b : decide (rd = 1) = false := by simp [c1]
          have c1c : (rd == 1) = false := by simp [c1]
          have c1d : (rd != 1) = true := by simp [c1]
          have hkN := hcnt.1 c1
          subst hkN
          gi_wp2_with fail
          refine region_head_lit 10 (by kernel_rfl) (by kernel_rfl) (by simp) (by kernel_rfl) ?_
          simp only [List.take_succ_cons, List.take_zero, List.drop_succ_cons, List.drop_zero]
          repeat (gi_big_quiet_step (fail))
          refine wpQuietIn_nil ?_
          intro _ hw'
          obtain ⟨mm, rfl⟩ := hw'
          have FF := hid0 (FIN.out mm)
          have c6 := z6 mm
          clear FIN z7 z6 z3 z0
          generalize A.drewN mm = A1 at *
          gi_wp2
          exact ⟨⟨D :: ds, _, _, _, _, _, _, _, _, _, _, _, _, _, _, _, _, _, _, _, _, _, _, _, _, _, _, _, _, _, _, _, _, _, _, _, _, _, _, _, _, _, _, _, _, _, _, _, _, _, _, _, _, _, _, _, _, _, _, _, _, _, _, _, _, rfl, by have := HDL.out; simp; omega, FF.out.2.1, FF.out.2.2.1, FF.out.2.2.2, FF.out.1⟩, by have := HDL.out; simp; omega⟩
theorem lall_any (T base R : Nat) (t : At) (w : World) (hT : TreeIs w T t) (hR : RefIs w base R t.er.toL) :
    Calls Try.prog 12 #[.pointer (some ⟨T, 0, none⟩), .pointer (some ⟨R, 0, none⟩)] w fun e w' => e = .returned (.bool true) ∧ Below w.heap.size w w' :=
  callsIn_wide.1 (lall_in 20 (by omega) T base R t w hT hR)
end Go.Proofs.Ytpikhdfndnpidaa
