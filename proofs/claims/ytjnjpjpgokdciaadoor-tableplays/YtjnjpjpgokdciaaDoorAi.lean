/- A set's All, as it is asked for and as it is gone over. -/
import Derived.Test.YtjnjpjpgokdciaaDoorWt
set_option linter.unusedSimpArgs false
set_option linter.unusedVariables false
namespace Go.Proofs.YtjnjpjpgokdciaaDoor
open Go.RowKit Go.Sort Go.Shelf
attribute [local go_sem] Oper.semAt_some wide_fn
attribute [local simp] wide_fn

/-- The numbers from a on, n of them, of which p is true. -/
def memR (p : Nat → Bool) (a : Nat) : Nat → List Nat
  | 0 => []
  | n + 1 => if p a then a :: memR p (a + 1) n else memR p (a + 1) n
theorem memR_none {p : Nat → Bool} : ∀ {n a : Nat}, (∀ i, a ≤ i → i < a + n → p i = false) → memR p a n = []
  | 0, _, _ => rfl
  | n + 1, a, h => by
    simp only [memR]
    rw [h a (Nat.le_refl _) (by omega)]
    exact memR_none (fun i h1 h2 => h i (by omega) (by omega))
theorem memR_first {p : Nat → Bool} {x : Nat} (hx : p x = true) : ∀ {n a : Nat}, a ≤ x → x < a + n → (∀ i, a ≤ i → i < x → p i = false) → memR p a n = x :: memR p (x + 1) (a + n - (x + 1))
  | 0, a, h1, h2, _ => by omega
  | n + 1, a, h1, h2, h => by
    simp only [memR]
    rcases Nat.eq_or_lt_of_le h1 with rfl | hlt
    · rw [hx]
      simp only [if_true]
      rw [show a + (n + 1) - (a + 1) = n by omega]
    · rw [h a (Nat.le_refl _) hlt]
      simp only [Bool.false_eq_true, if_false]
      have := memR_first (p := p) hx (n := n) (a := a + 1) (by omega) (by omega) (fun i h3 h4 => h i (by omega) h4)
      rw [this, show a + 1 + n - (x + 1) = a + (n + 1) - (x + 1) by omega]
theorem memR_add {p : Nat → Bool} : ∀ {n a m : Nat}, memR p a (n + m) = memR p a n ++ memR p (a + n) m
  | 0, a, m => by simp [memR]
  | n + 1, a, m => by
    rw [show n + 1 + m = (n + m) + 1 by omega]
    simp only [memR]
    rw [memR_add (n := n) (a := a + 1) (m := m), show a + 1 + n = a + (n + 1) by omega]
    split <;> simp
theorem memR_congr {p q : Nat → Bool} : ∀ {n a : Nat}, (∀ i, p i = q i) → memR p a n = memR q a n
  | 0, _, _ => rfl
  | n + 1, a, h => by simp only [memR]; rw [h a, memR_congr h]
theorem memR_len {p : Nat → Bool} : ∀ {n a : Nat}, (memR p a n).length ≤ n
  | 0, _ => Nat.le_refl _
  | n + 1, a => by
    have := memR_len (p := p) (n := n) (a := a + 1)
    simp only [memR]
    split
    · simp only [List.length_cons]; omega
    · omega
theorem memR_lt {p : Nat → Bool} : ∀ {n a x : Nat}, x ∈ memR p a n → x < a + n
  | 0, _, _, h => by cases h
  | n + 1, a, x, h => by
    simp only [memR] at h
    split at h
    · rcases List.mem_cons.1 h with rfl | h
      · omega
      · have := memR_lt h; omega
    · have := memR_lt h; omega
/-- The numbers of a set, rising. -/
def memT (T : List Bool) : List Nat := memR (fun i => T.getD i false) 0 T.length
theorem Rep.mem {T : List Bool} {W : List Nat} (h : Rep T W) : memR (bt W) 0 (64 * W.length) = memT T := by
  have hl := h.len
  obtain ⟨m, hm⟩ : ∃ m, 64 * W.length = T.length + m := ⟨64 * W.length - T.length, by omega⟩
  rw [hm, memR_add, memR_none (n := m) (fun i h1 _ => by rw [h.is, List.getD_eq_getElem?_getD, List.getElem?_eq_none (by omega)]; rfl), List.append_nil]
  exact memR_congr h.is
/-- What is told from f on. -/
theorem least_mem {W : List Nat} {f : Nat} {r : Int} (h : IsLeast (pW W f false) (64 * W.length) r) : (r = -1 ∧ memR (bt W) f (64 * W.length - f) = []) ∨ ∃ x : Nat, r = x ∧ x < 64 * W.length ∧ f ≤ x ∧ memR (bt W) f (64 * W.length - f) = x :: memR (bt W) (x + 1) (64 * W.length - (x + 1)) := by
  have e : ∀ i, f ≤ i → pW W f false i = bt W i := fun i hi => by
    unfold pW
    rw [decide_eq_true hi]
    cases bt W i <;> rfl
  rcases h with ⟨rfl, h⟩ | ⟨x, hx, rfl, px, h⟩
  · exact .inl ⟨rfl, memR_none (fun i h1 h2 => by rw [← e i h1]; exact h i (by omega))⟩
  · have hfx : f ≤ x := by
      unfold pW at px
      simp only [Bool.and_eq_true, decide_eq_true_eq] at px
      exact px.1
    refine .inr ⟨x, rfl, hx, hfx, ?_⟩
    have := memR_first (p := bt W) (x := x) (by rw [← e x hfx]; exact px) (n := 64 * W.length - f) (a := f) hfx (by omega) (fun i h1 h2 => by rw [← e i h1]; exact h i h2)
    rw [this, show f + (64 * W.length - f) - (x + 1) = 64 * W.length - (x + 1) by omega]
def msr (r : Int) : Nat := if r < 0 then 0 else 70000 - r.toNat
theorem msr_lt {x : Nat} {r : Int} (hx : x < 65536) (h : r = -1 ∨ (x : Int) + 1 ≤ r) : msr r < msr (x : Int) := by
  unfold msr
  split <;> split <;> omega
/-- What All has laid: the captured list of the words. -/
structure BKept (w : World) (bt : Nat) (v : Value) (W : List Nat) : Prop where
  cap : Bk w bt 88 [v]
  row : WordsAt w v W
  lt : ∀ x ∈ W, x < 18446744073709551616
  few : W.length ≤ 1024
theorem WordsAt.kp {w w' : World} {v : Value} {W : List Nat} (h : WordsAt w v W) (k : ∀ g, v.ownBlock = some g → w'.heap[g]? = w.heap[g]?) : WordsAt w' v W := by
  rcases h with h | ⟨g, cp, rest, rfl, hB⟩
  · exact .inl h
  · exact .inr ⟨g, cp, rest, rfl, hB.same (k g rfl)⟩
theorem WordsAt.lt {w : World} {v : Value} {W : List Nat} (h : WordsAt w v W) {g : Nat} (e : v.ownBlock = some g) : g < w.heap.size := by
  rcases h with ⟨rfl, _⟩ | ⟨g', cp, rest, rfl, hB⟩
  · cases e
  · cases e; exact hB.lt
theorem BKept.kp {w w' : World} {b : Nat} {v : Value} {W : List Nat} (h : BKept w b v W) (k1 : w'.heap[b]? = w.heap[b]?) (k2 : ∀ g, v.ownBlock = some g → w'.heap[g]? = w.heap[g]?) : BKept w' b v W := ⟨h.cap.same k1, h.row.kp k2, h.lt, h.few⟩
theorem BKept.gr {w w' : World} {b : Nat} {v : Value} {W : List Nat} (h : BKept w b v W) (k : Gr w w') : BKept w' b v W := h.kp (k.below.block _ h.cap.lt) (fun g e => k.below.block _ (h.row.lt e))
theorem Tab.kp {w w' : World} (h : Tab w) (k : w'.heap[0]? = w.heap[0]?) : Tab w' := fun j hj => by
  have := h j hj
  rw [← this]
  simp only [World.cell?, k]
/-- The blocks that a walk over a set reads. -/
abbrev pK (b : Nat) (v : Value) : Nat → Prop := fun k => k = b ∨ v.ownBlock = some k ∨ k = 0
abbrev nEnc (x : Nat) : Array Value := #[.int .i64 (x : Int)]
set_option maxRecDepth 100000 in
set_option maxHeartbeats 4000000 in
theorem ball1_in (n : Nat) (hn : 3 ≤ n) (l b : Nat) (v : Value) (W0 : List Nat) (J : (Nat → Prop) → List Nat → World → Prop) (Jx : List Nat → World → Prop) (p : Nat → Prop) (W : World)
    (hb : BKept W b v W0) (hT : Tab W) (pb : ∀ k, pK b v k → p k) (hps : ∀ b, p b → b < W.heap.size) (hJ : Con W.heap.size J)
    (hY : ∀ pre x W1, (∀ b, p b → b < W1.heap.size) → J p pre W1 → W.heap.size ≤ W1.heap.size → pre ++ [x] <+: memR (bt W0) 0 (64 * W0.length) → YieldAt Fence.wide 0 Tryd.prog l (nEnc x) W1 (RoundEnds W.heap.size J Jx p (pre ++ [x]) W1))
    (h0 : J p [] W) :
    CallsIn Fence.wide n Tryd.prog 52 #[.func (.yield l) #[] #[], pT b] W fun e W' => (∃ v, e = .returned v) ∧
      ((∃ q, J q (memR (bt W0) 0 (64 * W0.length)) W' ∧ ∀ b, p b → q b) ∨ (∃ pre, pre <+: memR (bt W0) 0 (64 * W0.length) ∧ Jx pre W')) := by
  have HY := hid0 hY
  have HB := hid0 hb
  have HT := hid0 hT
  have c0 := hb.cap.one
  have hfew := hb.few
  have KP : Hid (∀ W', Kp p W W' → BKept W' b v W0 ∧ Tab W') := fun W' k => ⟨HB.out.kp (k b (pb b (.inl rfl))) (fun g e => k g (pb g (.inr (.inl e)))), HT.out.kp (k 0 (pb 0 (.inr (.inr rfl))))⟩
  have FI : Hid (∀ W', Kp p W W' → ∀ f : Nat, f ≤ 65536 → Calls Tryd.prog 53 #[v, .int .i64 (f : Int), .int .u64 0] W' fun e w' => ∃ r, e = .returned (.int .i64 r) ∧ w' = W' ∧ IsLeast (pW W0 f false) (64 * W0.length) r) := fun W' k f hf => by
    have := first_any v W0 (f : Int) f false W' (KP.out W' k).1.row (KP.out W' k).2 HB.out.lt HB.out.few (by omega) (by omega)
    exact this
  clear hY hb hT
  have F0 := hid0 (FI.out W (Kp.refl _) 0 (by omega))
  refine callsIn_of_wp Tryd.func52 rfl trivial ?_ rfl
  simp only [Tryd.ntmps52, List.size_toArray, List.length_cons, List.length_nil, Nat.reduceAdd, Nat.reduceSub, Array.replicate_succ, Array.replicate_zero, List.push_toArray, List.append_toArray, List.nil_append, List.cons_append]
  gi_wp2_with fail
  refine ⟨fun _ => by omega, (callsIn_wide.2 F0.out).mono ?_⟩
  rintro e w1 ⟨r, rfl, hw, hr⟩
  cases hw
  have HR := hid0 hr
  clear F0 hr c0
  gi_wp2
  gi_loopw [3] (fun s3 wr => ∃ (pre : List Nat) (f : Nat) (r : Int), s3 = .int .i64 r ∧ f ≤ 65536 ∧ Hid (pre ++ memR (bt W0) f (64 * W0.length - f) = memR (bt W0) 0 (64 * W0.length)) ∧ Hid (IsLeast (pW W0 f false) (64 * W0.length) r) ∧ Hid (J p pre wr) ∧ Hid (Kp p W wr) ∧ W.heap.size ≤ wr.heap.size) (fun s _ => msr (intOf s))
  case atStart => exact ⟨[], 0, r, rfl, by omega, rfl, HR, h0, Kp.refl _, Nat.le_refl _⟩
  case round =>
    clear h0 HR
    obtain ⟨pre, f, r, rfl, hf, HM, HR, HJ, HK, hsz⟩ := hrel
    rcases least_mem HR.out with ⟨rfl, he⟩ | ⟨x, rfl, hx, hfx, he⟩
    · have HE : Hid (J p (memR (bt W0) 0 (64 * W0.length)) wr) := by
        have := HJ.out
        rw [← HM.out, he, List.append_nil]
        exact this
      clear he HM HR HJ
      gi_wp2
      go_end0
      exact ⟨⟨_, rfl⟩, .inl ⟨p, HE.out, fun _ h => h⟩⟩
    · have HP : Hid (pre ++ [x] <+: memR (bt W0) 0 (64 * W0.length)) := by
        rw [← HM.out, he]
        exact ⟨memR (bt W0) (x + 1) (64 * W0.length - (x + 1)), by simp⟩
      have HM2 : Hid ((pre ++ [x]) ++ memR (bt W0) (x + 1) (64 * W0.length - (x + 1)) = memR (bt W0) 0 (64 * W0.length)) := by
        show _ = _
        rw [← HM.out, he]
        simp
      have hx2 : x < 65536 := by omega
      have hy := HY.out pre x wr (fun b hb => Nat.lt_of_lt_of_le (hps b hb) hsz) HJ.out hsz HP.out
      clear he HM HR HJ
      obtain ⟨fn, tmps, assign, body, hy, hRd⟩ := yield_depth (n - 1) hy
      dsimp only [nEnc] at hy
      gi_wp2
      refine ⟨fun h => (by cases h), hRd.mono ?_⟩
      clear hy hRd
      rintro e W3 (⟨rfl, hJ3, hk3, hf3⟩ | ⟨rfl, hJx3, hf3⟩)
      · replace hJ3 := hid0 hJ3
        have hK3 := hid0 (HK.out.t hk3)
        have hs3 := hf3.size
        have c3 := (KP.out W3 hK3.out).1.cap.one
        have F3 := hid0 (FI.out W3 hK3.out (x + 1) (by omega))
        rw [show ((x + 1 : Nat) : Int) = (x : Int) + 1 by omega] at F3
        clear hk3 hf3 HK
        gi_wp2_with fail
        refine ⟨fun _ => by omega, (callsIn_wide.2 F3.out).mono ?_⟩
        rintro e w1 ⟨r3, rfl, hw, hr3⟩
        cases hw
        have HR3 := hid0 hr3
        have hdec : Hid (r3 = -1 ∨ (x : Int) + 1 ≤ r3) := by
          rcases least_mem hr3 with ⟨h, _⟩ | ⟨y, h, _, h2, _⟩
          · exact .inl h
          · exact .inr (by omega)
        clear hr3 F3 c3
        gi_wp2
        go_roundw
        case rel => exact ⟨pre ++ [x], x + 1, r3, rfl, by omega, HM2, HR3, hJ3, hK3, by omega⟩
        case measure => exact msr_lt hx2 hdec.out
      · replace hJx3 := hid0 hJx3
        clear hf3
        gi_wp2
        refine bodyPost_ret (results_none rfl _ _ _) rfl ?_
        exact ⟨⟨_, rfl⟩, .inr ⟨_, HP.out, hJx3.out⟩⟩
theorem ball1_seq (n : Nat) (hn : 3 ≤ n) (b : Nat) (v : Value) (W0 : List Nat) (w : World) (hb : BKept w b v W0) (hT : Tab w) :
    SeqO n 52 #[pT b] nEnc (memR (bt W0) 0 (64 * W0.length)) (pK b v) w := fun l J Jx p W gW hp hpb hJ _ hY h0 =>
  ball1_in n hn l b v W0 J Jx p W (hb.gr gW) (hT.gr gW) hp hpb hJ (fun pre x W1 h2 h3 h4 h5 => hY p pre x W1 hp h2 h3 h4 h5) h0
theorem own_words {w : World} {v : Value} {W : List Nat} {B : Nat} (h : w.ownsRow B 116 1 v W.length (W.map wV)) : WordsAt w v W := by
  rcases h.2 with ⟨rfl, hn⟩ | ⟨g, cap, cur, rfl, hg, hh, hle, hm, hs, ht⟩
  · exact .inl ⟨rfl, List.eq_nil_of_length_eq_zero hn⟩
  · refine .inr ⟨g, cap, cur.toList.drop W.length, rfl, ?_⟩
    unfold Bk
    rw [hh]
    simp only [Option.some.injEq, Obj.cells.injEq, and_true]
    apply Array.toList_inj.1
    rw [← ht, Nat.mul_one, List.take_append_drop]
def AllR (w : World) (W : List Nat) (e : Ending) (w' : World) : Prop := ∃ bt v, e = .returned (.func (.func 52) #[] #[pT bt]) ∧ BKept w' bt v W ∧ w.heap.size ≤ bt ∧ (∀ g, v.ownBlock = some g → w.heap.size ≤ g) ∧ Below w.heap.size w w'
theorem ball_any {w : World} {b g : Nat} {T : List Bool} {W : List Nat} (h : BitsIs w b g T W) : Calls Tryd.prog 22 #[pT b] w (AllR w W) := by
  have k0 := Bk.new w 88 [.slice none 0 0]
  have g0 := (Gr.refl w).alloc (.cells #[.slice none 0 0] 88)
  have H := hid0 (h.gr g0)
  clear h
  go_enter Tryd.func22, Tryd.ntmps22
  go_upto_region 2 with fail
  obtain ⟨bt, ebt, hbt⟩ : ∃ k, k = w.heap.size ∧ w.heap.size ≤ k := ⟨_, rfl, Nat.le_refl _⟩
  rw [← ebt] at k0 ⊢
  clear ebt
  generalize w.alloc _ = W1 at *
  have A := hid0 (babsent_yes b W1 H.out.c0)
  obtain ⟨i0, hi, hz0, hz1, hz2⟩ := info_parts u64_info
  have hl : W.length ≤ 1024 := by have := H.out.rep.len; have := H.out.most; omega
  have CL := hid0 (AnyE.slices_Clone Tryd.laysClW i0 (wV 0) 1 8 hi hz0 hz1 hz2 rfl (by decide) (by intro w; exact Tryd.sizeOf116 w) g 0 W.length W.length (W.map wV) W1 (by simp) (by unfold maxLen; omega) (by omega)
    (fun j u hj => by rw [Nat.zero_add, H.out.row.at]; exact hj) (fun u hu => by obtain ⟨x, _, rfl⟩ := List.mem_map.1 hu; rfl))
  have c2 := H.out.c2
  clear hi hz0 hz1 hz2
  go_wp2_with (go_at_call 50; refine A.out.mono ?_; rintro e w1 ⟨rfl, hw⟩; cases hw)
  refine CL.out.mono ?_
  rintro e w2 ⟨v', rfl, hO, hv, hB⟩
  have k2 := k0.mono hB k0.lt
  have f2 := k2.frozen 0
  have e2 := k2.one
  have hv0 : ∀ g, v'.ownBlock = some g → W1.heap.size ≤ g := fun g e => (hO.lt g e).1
  obtain ⟨ao, n', c', rfl⟩ : ∃ ao n' c', v' = .slice ao n' c' := by
    rcases hO.2 with ⟨e, _⟩ | ⟨g', cap, cur, e, _⟩
    · exact ⟨_, _, _, e⟩
    · exact ⟨_, _, _, e⟩
  have hne : ∀ g, (Value.slice ao n' c').ownBlock = some g → g ≠ bt := fun g e => by have h1 := hv0 g e; have := k0.lt; omega
  have WA := own_words (W := W) hO
  have K3 : Hid (BKept (w2.setCell ⟨bt, 0, none⟩ (.slice ao n' c')) bt (.slice ao n' c') W) :=
    ⟨k2.set 0 _, WA.kp (fun g e => Below.heap_setCell _ _ _ _ (hne g e)), H.out.rep.lt, hl⟩
  have B3 : Hid (Below w.heap.size w (w2.setCell ⟨bt, 0, none⟩ (.slice ao n' c'))) := (g0.below.trans (hB.mono g0.size)).setCell (p := ⟨bt, 0, none⟩) hbt _
  have hvw : Hid (∀ g, (Value.slice ao n' c').ownBlock = some g → w.heap.size ≤ g) := fun g e => Nat.le_trans g0.size (hv0 g e)
  clear CL hO hv c2 A hv0 hne WA hB H k0 k2 g0
  go_wp2
  go_ret
  exact ⟨bt, _, rfl, K3.out, hbt, hvw.out, B3.out⟩
theorem ball_nil (v : Value) (w : World) (h : NoBits w v) : Calls Tryd.prog 22 #[v] w (AllR w []) := by
  have k0 := Bk.new w 88 [.slice none 0 0]
  have g0 := (Gr.refl w).alloc (.cells #[.slice none 0 0] 88)
  have H := h.gr g0
  have A := hid0 (babsent_nil v _ H)
  have K : Hid (BKept (w.alloc (.cells #[.slice none 0 0] 88)) w.heap.size (.slice none 0 0) []) := ⟨k0, .inl ⟨rfl, rfl⟩, fun x hx => by simp at hx, by simp⟩
  have B := hid0 g0.below
  clear h H k0 g0
  go_enter Tryd.func22, Tryd.ntmps22
  go_wp2_with (go_at_call 50; refine A.out.mono ?_; rintro e w1 ⟨rfl, hw⟩; cases hw)
  go_ret
  exact ⟨_, _, rfl, K.out, Nat.le_refl _, fun g e => (by cases e), B.out⟩
end Go.Proofs.YtjnjpjpgokdciaaDoor
