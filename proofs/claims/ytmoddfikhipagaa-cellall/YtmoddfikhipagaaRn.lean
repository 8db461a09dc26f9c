/- cell's run: the iterator over the cells from one to another, step by step. -/
import Derived.Test.YtmoddfikhipagaaSq
import Derived.Deep.LoopGhost
namespace Go.Proofs.Ytmoddfikhipagaa
open Go.RowKit Go.Shelf
attribute [local go_sem] Oper.semAt_some wide_fn
attribute [local simp] wide_fn

abbrev C2 := Int × Int
abbrev cv (c : C2) : Value := pt c.1 c.2
abbrev cEnc (c : C2) : Array Value := #[pt c.1 c.2]
/-- The i-th cell of a run. -/
def rAt (f s : C2) (i : Nat) : C2 := (f.1 + i * s.1, f.2 + i * s.2)
def runL (f s : C2) (k : Nat) : List C2 := (List.range k).map (rAt f s)
theorem runL_succ (f s : C2) (k : Nat) : runL f s (k + 1) = runL f s k ++ [rAt f s k] := by simp [runL, List.range_succ]
theorem runL_pre (f s : C2) {i k : Nat} (h : i ≤ k) : runL f s i <+: runL f s k := by
  obtain ⟨d, rfl⟩ := Nat.le.dest h
  induction d with
  | zero => exact List.prefix_refl _
  | succ d ih => rw [← Nat.add_assoc, runL_succ]; exact (ih (by omega)).trans (List.prefix_append _ _)

set_option maxHeartbeats 1000000 in
theorem run_any (f t s : C2) (w : World) :
    Calls Try.prog 37 #[cv f, cv t, cv s] w fun e w' => e = .returned (.func (.func 47) #[] #[.pointer (some ⟨w.heap.size, 0, none⟩), .pointer (some ⟨w.heap.size + 1, 0, none⟩), .pointer (some ⟨w.heap.size + 2, 0, none⟩)]) ∧
      w' = ((w.alloc (.cells #[.int .i32 f.1, .int .i32 f.2] 26)).alloc (.cells #[.int .i32 t.1, .int .i32 t.2] 26)).alloc (.cells #[.int .i32 s.1, .int .i32 s.2] 26) := by
  go_enter Try.func37, Try.ntmps37
  go_wp2
  go_ret
  exact ⟨by simp, rfl⟩

/-- A run leads from f by k steps of s to t, within the numbers of 32 bits, and is at t there alone. -/
structure Runs (f t s : C2) (k : Nat) : Prop where
  last : t = rAt f s k
  first : ∀ i, i < k → rAt f s i ≠ t
  small : ∀ i, i ≤ k → in32 (rAt f s i).1 ∧ in32 (rAt f s i).2

/-- What a run's variable holds when at most m rounds are to come. -/
def RunAt (J : (Nat → Prop) → List C2 → World → Prop) (f s : C2) (k : Nat) (p : Nat → Prop) (W : World) (m : Nat) (v : Value) (wr : World) : Prop :=
  m ≤ k ∧ ∃ b q, v = .pointer (some ⟨b, 0, none⟩) ∧ Bk wr b 26 [.int .i32 (rAt f s (k - m)).1, .int .i32 (rAt f s (k - m)).2] ∧ q b ∧ (∀ b, p b → q b) ∧ (∀ c, q c → c < wr.heap.size) ∧ W.heap.size ≤ b ∧ J q (runL f s (k - m)) wr ∧ Kp p W wr ∧ W.heap.size ≤ wr.heap.size

theorem least_le {R : Nat → Prop} {m : Nat} (h : R m) : leastOf R ≤ m := (leastOf_spec ⟨m, h⟩).2 m h
theorem w32_eq {x : Int} (h : in32 x) : wrap32 x = x := by unfold in32 at h; unfold wrap32; omega
theorem grown_set (w : World) (b i : Nat) (v : Value) : w.grownBy (w.setCell ⟨b, i, none⟩ v) (some b) :=
  ⟨rfl, rfl, rfl, by simp [World.setCell], fun k _ hk => Below.heap_setCell _ _ _ _ (fun e => hk (by simp [e]))⟩
theorem run_step {J : (Nat → Prop) → List C2 → World → Prop} {f t s c : C2} {k i m b : Nat} {p q : Nat → Prop} {W wr W3 : World} (hH : Runs f t s k ∧ i = k - m ∧ c = rAt f s i ∧ m ≤ k) (hct : ¬ (c.1 = t.1 ∧ c.2 = t.2))
    (hJ : Con W.heap.size J) (hqb : q b) (hpq : ∀ b, p b → q b) (hq : ∀ c, q c → c < wr.heap.size) (hWb : W.heap.size ≤ b) (hps : ∀ b, p b → b < W.heap.size) (hkp : Kp p W wr) (hsz : W.heap.size ≤ wr.heap.size)
    (hJ3 : J q (runL f s i ++ [c]) W3) (hk3 : Kp q wr W3) (hf3 : KeepsFrom W.heap.size wr W3) (X Y : Int) (hX : X = wrap32 (c.1 + s.1)) (hYY : Y = wrap32 (c.2 + s.2)) :
    RunAt J f s k p W (m - 1) (.pointer (some ⟨W3.heap.size, 0, none⟩)) (((W3.setCell ⟨b, 0, none⟩ (.int .i32 X)).setCell ⟨b, 1, none⟩ (.int .i32 Y)).alloc (.cells #[.int .i32 X, .int .i32 Y] 26)) ∧ m - 1 < m := by
  obtain ⟨hR, rfl, rfl, hm⟩ := hH
  have hm0 : 0 < m := by
    rcases Nat.eq_zero_or_pos m with rfl | h
    · exfalso; apply hct; rw [hR.last]; exact ⟨rfl, rfl⟩
    · exact h
  have e1 : k - (m - 1) = k - m + 1 := by omega
  have e2 : rAt f s (k - m + 1) = (X, Y) := by
    have h := hR.small (k - m + 1) (by omega)
    have a1 : (rAt f s (k - m)).1 + s.1 = (rAt f s (k - m + 1)).1 := by simp [rAt, Int.add_mul]; omega
    have a2 : (rAt f s (k - m)).2 + s.2 = (rAt f s (k - m + 1)).2 := by simp [rAt, Int.add_mul]; omega
    rw [hX, hYY, a1, a2, w32_eq h.1, w32_eq h.2]
  have hs3 := hf3.size
  generalize hA : (W3.setCell ⟨b, 0, none⟩ (.int .i32 X)).setCell ⟨b, 1, none⟩ (.int .i32 Y) = A
  have hsA : A.heap.size = W3.heap.size := by rw [← hA]; simp [World.setCell]
  have hoA : ∀ j, j ≠ b → A.heap[j]? = W3.heap[j]? := fun j hj => by rw [← hA, Below.heap_setCell _ _ _ _ hj, Below.heap_setCell _ _ _ _ hj]
  have hJA : J q (runL f s (k - m + 1)) A := by
    rw [runL_succ, ← hA]
    exact hJ.own _ _ _ _ (some b) (hJ.own _ _ _ _ (some b) hJ3 (grown_set _ _ _ _) (fun r e => by cases e; exact ⟨hWb, .inl hqb⟩)) (grown_set _ _ _ _) (fun r e => by cases e; exact ⟨hWb, .inl hqb⟩)
  have hgA : Gr A (A.alloc (.cells #[.int .i32 X, .int .i32 Y] 26)) := (Gr.refl _).alloc _
  refine ⟨⟨by omega, W3.heap.size, fun c => q c ∨ c = W3.heap.size, rfl, ?_, .inr rfl, fun b hb => .inl (hpq b hb), ?_, by omega, ?_, ?_, ?_⟩, by omega⟩
  · rw [e1, e2, ← hsA]; exact Bk.new A 26 _
  · rintro c (hc | rfl)
    · have := hq c hc; have := hgA.size; omega
    · rw [← hsA]; simp
  · rw [e1]
    exact hJ.gr (hJ.new _ _ _ _ hJA (by omega)) hgA
  · refine hkp.t (fun j hj => ?_)
    have hlt := hps j hj
    rw [hgA.below.block j (by omega), hoA j (by omega)]
    exact hk3 j (hpq j hj)
  · have := hgA.size; omega

set_option maxRecDepth 100000 in
set_option maxHeartbeats 4000000 in
theorem run1_in (n : Nat) (l bf bt bs : Nat) (f t s : C2) (k : Nat) (hR : Runs f t s k) (J : (Nat → Prop) → List C2 → World → Prop) (Jx : List C2 → World → Prop) (p : Nat → Prop) (W : World)
    (hbf : Bk W bf 26 [.int .i32 f.1, .int .i32 f.2]) (hbt : Bk W bt 26 [.int .i32 t.1, .int .i32 t.2]) (hbs : Bk W bs 26 [.int .i32 s.1, .int .i32 s.2]) (pt' : p bt) (ps : p bs)
    (hps : ∀ b, p b → b < W.heap.size) (hJ : Con W.heap.size J)
    (hY : ∀ p' pre x W1, (∀ b, p b → p' b) → (∀ b, p' b → b < W1.heap.size) → J p' pre W1 → W.heap.size ≤ W1.heap.size → pre ++ [x] <+: runL f s (k + 1) → YieldAt Fence.wide 0 Try.prog l (cEnc x) W1 (RoundEnds W.heap.size J Jx p' (pre ++ [x]) W1))
    (h0 : J p [] W) :
    CallsIn Fence.wide n Try.prog 47 #[.func (.yield l) #[] #[], .pointer (some ⟨bf, 0, none⟩), .pointer (some ⟨bt, 0, none⟩), .pointer (some ⟨bs, 0, none⟩)] W fun e W' => (∃ v, e = .returned v) ∧
      ((∃ q, J q (runL f s (k + 1)) W' ∧ ∀ b, p b → q b) ∨ (∃ pre, pre <+: runL f s (k + 1) ∧ Jx pre W')) := by
  refine callsIn_of_wp Try.func47 rfl trivial ?_ rfl
  simp only [Try.ntmps47, List.size_toArray, List.length_cons, List.length_nil, Nat.reduceAdd, Nat.reduceSub, Array.replicate_succ, Array.replicate_zero, List.push_toArray, List.append_toArray, List.nil_append, List.cons_append]
  obtain ⟨f0, f1⟩ := hbf.two
  gi_wp2
  gi_loopw [5] (fun v wr => ∃ m, RunAt J f s k p W m v wr) (fun v wr => leastOf (fun m => RunAt J f s k p W m v wr))
  case atStart =>
    have hb0 : Bk (W.alloc (.cells #[.int .i32 f.1, .int .i32 f.2] 26)) W.heap.size 26 [.int .i32 f.1, .int .i32 f.2] := Bk.new W 26 _
    have hg0 : Gr W (W.alloc (.cells #[.int .i32 f.1, .int .i32 f.2] 26)) := (Gr.refl _).alloc _
    have e0 : rAt f s (k - k) = f := by simp [rAt]
    refine ⟨k, Nat.le_refl _, W.heap.size, fun c => p c ∨ c = W.heap.size, rfl, ?_, .inr rfl, fun b hb => .inl hb, ?_, Nat.le_refl _, ?_, Kp.gr hps hg0, hg0.size⟩
    · rw [e0]; exact hb0
    · rintro c (hc | rfl)
      · have := hps c hc; have := hg0.size; omega
      · simp
    · rw [Nat.sub_self]
      exact hJ.gr (hJ.new p [] W _ h0 (Nat.le_refl _)) hg0
  case round =>
    have HL := leastOf_spec hrel
    obtain ⟨m, HM⟩ : ∃ m, Hid (m = leastOf (fun m => RunAt J f s k p W m u5 wr)) := ⟨_, rfl⟩
    rw [← HM.out] at HL
    obtain ⟨⟨hm, b, q, rfl, hb, hqb, hpq, hq, hWb, hj, hkp, hsz⟩, _⟩ := HL
    clear hrel f0 f1 h0
    obtain ⟨i, hi⟩ : ∃ i, i = k - m := ⟨_, rfl⟩
    rw [← hi] at hb hj
    obtain ⟨c, hc⟩ : ∃ c, c = rAt f s i := ⟨_, rfl⟩
    rw [← hc] at hb
    have hy := hY q (runL f s i) c wr hpq hq hj hsz (by rw [hc, ← runL_succ]; exact runL_pre f s (by omega))
    have hqt : Bk wr bt 26 [.int .i32 t.1, .int .i32 t.2] := hbt.same (hkp bt pt')
    have hqs : Bk wr bs 26 [.int .i32 s.1, .int .i32 s.2] := hbs.same (hkp bs ps)
    clear hbt hbs hbf
    obtain ⟨fn, tmps, assign, body, hy, hRd⟩ := yield_depth (n - 1) hy
    obtain ⟨c0, c1⟩ := hb.two
    have HR : Hid (Runs f t s k ∧ i = k - m ∧ c = rAt f s i ∧ m ≤ k) := ⟨hR, hi, hc, hm⟩
    clear hR hi hc hm
    dsimp only [cEnc] at hy
    gi_wp2
    refine ⟨fun h => (by cases h), hRd.mono ?_⟩
    clear hy hRd c0 c1
    rintro e W3 (⟨rfl, hJ3, hk3, hf3⟩ | ⟨rfl, hJx3, hf3⟩)
    · have hb3 : Bk W3 b 26 [.int .i32 c.1, .int .i32 c.2] := hb.same (hk3 b hqb)
      have ht3 : Bk W3 bt 26 [.int .i32 t.1, .int .i32 t.2] := hqt.same (hk3 bt (hpq _ pt'))
      have hs3 : Bk W3 bs 26 [.int .i32 s.1, .int .i32 s.2] := hqs.same (hk3 bs (hpq _ ps))
      obtain ⟨c0, c1⟩ := hb3.two
      obtain ⟨t0, t1⟩ := ht3.two
      obtain ⟨s0, s1⟩ := hs3.two
      have z0 := hb3.frozen 0
      have z1 := hb3.frozen 1
      by_cases hct : c = t
      · have hct' : c.1 = t.1 ∧ c.2 = t.2 := by rw [hct]; exact ⟨rfl, rfl⟩
        have hend : runL f s i ++ [c] = runL f s (k + 1) := by
          obtain ⟨hR, e1, e2, e3⟩ := HR.out
          have : i = k := by
            rcases Nat.lt_or_ge i k with h | h
            · exact absurd (e2.symm.trans hct) (hR.first i h)
            · omega
          rw [runL_succ, ← this, e2]
        have HE : Hid (J q (runL f s (k + 1)) W3) := by rw [← hend]; exact hJ3
        obtain ⟨hc1, hc2⟩ := hct'
        clear hend hct
        gi_wp2
        go_end0
        exact ⟨⟨_, rfl⟩, .inl ⟨q, HE.out, hpq⟩⟩
      · have hct' : ¬ (c.1 = t.1 ∧ c.2 = t.2) := fun h => hct (Prod.ext h.1 h.2)
        have HC : Hid (∀ X Y, X = wrap32 (c.1 + s.1) → Y = wrap32 (c.2 + s.2) → RunAt J f s k p W (m - 1) (.pointer (some ⟨W3.heap.size, 0, none⟩)) (((W3.setCell ⟨b, 0, none⟩ (.int .i32 X)).setCell ⟨b, 1, none⟩ (.int .i32 Y)).alloc (.cells #[.int .i32 X, .int .i32 Y] 26)) ∧ m - 1 < m) :=
          fun X Y hX hYY => run_step HR.out hct' hJ hqb hpq hq hWb hps hkp hsz hJ3 hk3 hf3 X Y hX hYY
        clear hct
        gi_wp2
        case roundEnd =>
          rename_i h1 h2
          obtain ⟨g1, g2⟩ := HC.out (wrap32 (t.1 + s.1)) _ (by rw [h1]) rfl
          exact ⟨⟨_, g1⟩, Nat.lt_of_le_of_lt (least_le (R := fun m => RunAt J f s k p W m _ _) g1) (Nat.lt_of_lt_of_eq g2 HM.out)⟩
        case roundEnd =>
          obtain ⟨g1, g2⟩ := HC.out _ _ rfl rfl
          exact ⟨⟨_, g1⟩, Nat.lt_of_le_of_lt (least_le (R := fun m => RunAt J f s k p W m _ _) g1) (Nat.lt_of_lt_of_eq g2 HM.out)⟩
    · gi_wp2
      go_end0
      exact ⟨⟨_, rfl⟩, .inr ⟨_, by obtain ⟨hR, e1, e2, e3⟩ := HR.out; rw [e2, ← runL_succ]; exact runL_pre f s (by omega), hJx3⟩⟩

/-- A run's contract: its three boxes are its own. -/
theorem run_seq (n : Nat) (bf bt bs : Nat) (f t s : C2) (k : Nat) (hR : Runs f t s k) (p0 : Nat → Prop) (w : World)
    (hbf : Bk w bf 26 [.int .i32 f.1, .int .i32 f.2]) (hbt : Bk w bt 26 [.int .i32 t.1, .int .i32 t.2]) (hbs : Bk w bs 26 [.int .i32 s.1, .int .i32 s.2]) (pf : p0 bf) (pt' : p0 bt) (ps : p0 bs) :
    SeqO n 47 #[.pointer (some ⟨bf, 0, none⟩), .pointer (some ⟨bt, 0, none⟩), .pointer (some ⟨bs, 0, none⟩)] cEnc (runL f s (k + 1)) p0 w := fun l J Jx p W hk hp hpb _ hJ _ hY h0 =>
  run1_in n l bf bt bs f t s k hR J Jx p W (hbf.same (hk bf pf)) (hbt.same (hk bt pt')) (hbs.same (hk bs ps)) (hp _ pt') (hp _ ps) hpb hJ (fun p' pre x W1 h1 h2 h3 h4 h5 => hY p' pre x W1 (fun b hb => h1 b (hp b hb)) h2 h3 h4 h5) h0
end Go.Proofs.Ytmoddfikhipagaa
