/- cell's Line: the iterator over the cells of a segment. -/
import Derived.Test.YtmoddfikhipagaaFi
set_option linter.unusedSimpArgs false
set_option linter.unusedVariables false
namespace Go.Proofs.Ytmoddfikhipagaa
open Go.RowKit Go.Sort Go.Shelf
attribute [local go_sem] Oper.semAt_some wide_fn
attribute [local simp] wide_fn

/-- The cells of a column, from the lowest to the highest. -/
def colC (c : C2 × C2) : List C2 := runL c.1 (0, 1) ((c.2.2 - c.1.2).toNat + 1)
def kOf (p q : C2) (s : Int) : Nat := (q.1 / s - p.1 / s).toNat
def lineL (p q : C2) (s : Int) : List C2 :=
  if szB s && plB p.1 p.2 && plB q.1 q.2 then (colsL (ordP p q).1 (ordP p q).2 s (kOf (ordP p q).1 (ordP p q).2 s) (kOf (ordP p q).1 (ordP p q).2 s + 1)).flatMap colC else []
theorem ord_le (p q : C2) : (ordP p q).1.1 ≤ (ordP p q).2.1 := by unfold ordP; split <;> simp <;> omega
theorem ord_lat {p q : C2} (hp : latP p) (hq : latP q) : latP (ordP p q).1 ∧ latP (ordP p q).2 := by unfold ordP; split <;> exact ⟨by assumption, by assumption⟩
theorem lat_of {p : C2} (h : plB p.1 p.2 = true) : latP p := plB_iff.1 h
theorem kOf_eq {p q : C2} {s : Int} (h : p.1 ≤ q.1) (hs : 1 ≤ s) : q.1 / s = p.1 / s + (kOf p q s : Nat) := by
  have := Int.ediv_le_ediv (show 0 < s by omega) h
  unfold kOf
  omega

/-- What holds between two columns: the word of whoever is told, over more blocks than asked, and where its yield lies. -/
def LnO {β : Type} (cells : β → List C2) (J : (Nat → Prop) → List C2 → World → Prop) (b l : Nat) (ps : Nat → Prop) (W : World) (p : Nat → Prop) (pre : List β) (A : World) : Prop :=
  ∃ q, (∀ c, p c → q c) ∧ J q (pre.flatMap cells) A ∧ q b ∧ (∀ c, ps c → q c) ∧ Bk A b 62 [.func (.yield l) #[] #[]] ∧ W.heap.size ≤ A.heap.size
def LnX {β : Type} (Jx : List C2 → World → Prop) (L : List C2) (c : Code) (pre : List β) (A : World) : Prop := c = .ret ∧ ∃ u, u <+: L ∧ Jx u A
/-- What holds between two cells of a run. -/
def LnI (J : (Nat → Prop) → List C2 → World → Prop) (b l : Nat) (ps : Nat → Prop) (W Wb : World) (B : Nat) (p' : Nat → Prop) (u : List C2) (p : Nat → Prop) (pre : List C2) (A : World) : Prop :=
  ∃ q, (∀ c, p c → q c) ∧ J q (u ++ pre) A ∧ q b ∧ (∀ c, ps c → q c) ∧ Bk A b 62 [.func (.yield l) #[] #[]] ∧ W.heap.size ≤ A.heap.size ∧ (∀ c, p' c → q c) ∧ Kp p' Wb A ∧ KeepsFrom B Wb A
def LnY (Jx : List C2 → World → Prop) (L : List C2) (Wb : World) (B : Nat) (c : Code) (pre : List C2) (A : World) : Prop := c = .ret ∧ (∃ u, u <+: L ∧ Jx u A) ∧ KeepsFrom B Wb A

theorem lno_con {β : Type} {cells : β → List C2} {J : (Nat → Prop) → List C2 → World → Prop} {b l : Nat} {ps : Nat → Prop} {W : World} {B : Nat} (hJ : Con W.heap.size J) (hB : W.heap.size ≤ B) (hb : b < B) : Con B (LnO cells J b l ps W) := by
  refine ⟨?_, ?_, ?_⟩
  · rintro p s A A' row ⟨q, h0, h1, h2, h3, h4, h5⟩ hg hr
    exact ⟨q, h0, (hJ.mono hB).own q _ A A' row h1 hg (fun r e => ⟨(hr r e).1, (hr r e).2.imp (h0 r) id⟩), h2, h3, h4.same (hg.block b h4.lt (fun e => by have := (hr b e.symm).1; omega)), Nat.le_trans h5 hg.size⟩
  · rintro p s A c ⟨q, h0, h1, h2, h3, h4, h5⟩ hc
    exact ⟨fun k => q k ∨ k = c, fun k hk => hk.imp (h0 k) id, hJ.new _ _ _ _ h1 hc, .inl h2, fun c hc => .inl (h3 c hc), h4, h5⟩
  · rintro p q s A ⟨q', h0, h⟩ hp
    exact ⟨q', fun c hc => h0 c (hp c hc), h⟩
theorem lnx_con {β : Type} {Jx : List C2 → World → Prop} {L : List C2} {B B' : Nat} (hJ : OwnFrom B Jx) (hB : B ≤ B') (c : Code) : OwnFrom B' (LnX (β := β) Jx L c) := by
  rintro s A A' row ⟨h1, u, h2, h3⟩ hg hr
  exact ⟨h1, u, h2, (ownFrom_mono hJ hB) u A A' row h3 hg hr⟩
theorem keeps_grown {B N : Nat} {Wb A A' : World} {row : Option Nat} (h : KeepsFrom B Wb A) (hg : A.grownBy A' row) (hr : ∀ r, row = some r → N ≤ r) (hN : Wb.heap.size ≤ N) : KeepsFrom B Wb A' :=
  ⟨Nat.le_trans h.size hg.size, fun k o hk h0 ho => by
    have h1 := h.same k o hk h0 ho
    have h2 := (Array.getElem?_eq_some_iff.1 h0).1
    exact (hg.block k (Array.getElem?_eq_some_iff.1 h1).1 (fun e => by have := hr k e.symm; omega)).trans h1⟩
theorem kp_grown {p : Nat → Prop} {N : Nat} {Wb A A' : World} {row : Option Nat} (h : Kp p Wb A) (hg : A.grownBy A' row) (hr : ∀ r, row = some r → N ≤ r) (hp : ∀ b, p b → b < N) (hs : ∀ b, p b → b < A.heap.size) : Kp p Wb A' := fun b hb =>
  (hg.block b (hs b hb) (fun e => by have h1 := hr b e.symm; have h2 := hp b hb; omega)).trans (h b hb)
theorem lni_con {J : (Nat → Prop) → List C2 → World → Prop} {b l : Nat} {ps : Nat → Prop} {W Wb : World} {B B' : Nat} {p' : Nat → Prop} {u : List C2} (hJ : Con W.heap.size J) (hB : W.heap.size ≤ B') (hb : b < B') (hWb : Wb.heap.size ≤ B') (hp' : ∀ c, p' c → c < Wb.heap.size) : Con B' (LnI J b l ps W Wb B p' u) := by
  refine ⟨?_, ?_, ?_⟩
  · rintro p s A A' row ⟨q, h0, h1, h2, h3, h4, h5, h6, h7, h8⟩ hg hr
    exact ⟨q, h0, (hJ.mono hB).own q _ A A' row h1 hg (fun r e => ⟨(hr r e).1, (hr r e).2.imp (h0 r) id⟩), h2, h3, h4.same (hg.block b h4.lt (fun e => by have := (hr b e.symm).1; omega)), Nat.le_trans h5 hg.size, h6,
      kp_grown h7 hg (fun r e => (hr r e).1) (fun b hb => Nat.lt_of_lt_of_le (hp' b hb) hWb) (fun b hb => Nat.lt_of_lt_of_le (hp' b hb) h8.size), keeps_grown h8 hg (fun r e => (hr r e).1) hWb⟩
  · rintro p s A c ⟨q, h0, h1, h2, h3, h4, h5, h6, h7, h8⟩ hc
    exact ⟨fun k => q k ∨ k = c, fun k hk => hk.imp (h0 k) id, hJ.new _ _ _ _ h1 hc, .inl h2, fun c hc => .inl (h3 c hc), h4, h5, fun c hc => .inl (h6 c hc), h7, h8⟩
  · rintro p q s A ⟨q', h0, h⟩ hp
    exact ⟨q', fun c hc => h0 c (hp c hc), h⟩
theorem lny_con {Jx : List C2 → World → Prop} {L : List C2} {Wb : World} {B B0 B' : Nat} (hJ : OwnFrom B0 Jx) (hB : B0 ≤ B') (hWb : Wb.heap.size ≤ B') (c : Code) : OwnFrom B' (LnY Jx L Wb B c) := by
  rintro s A A' row ⟨h1, ⟨u, h2, h3⟩, h4⟩ hg hr
  exact ⟨h1, ⟨u, h2, (ownFrom_mono hJ hB) u A A' row h3 hg hr⟩, keeps_grown h4 hg (fun r e => (hr r e).1) hWb⟩
theorem bk_own {t : TypeId} {vs : List Value} {b B : Nat} {A A' : World} {row : Option Nat} (h : Bk A b t vs) (hg : A.grownBy A' row) (hr : ∀ r, row = some r → B ≤ r ∧ ∃ o : Obj, A.heap[r]? = some o ∧ o.isCells = false) : Bk A' b t vs := by
  refine h.same (hg.block b h.lt (fun e => ?_))
  obtain ⟨_, o, ho, hc⟩ := hr b e.symm
  unfold Bk at h
  rw [h] at ho
  cases ho
  cases hc
/-- A column is a run. -/
theorem col_runs {p q : C2} (hx : q.1 = p.1) (hy : p.2 ≤ q.2) (h1 : in32 p.1 ∧ in32 p.2) (h2 : in32 q.2) : Runs p q (0, 1) (q.2 - p.2).toNat := by
  refine ⟨?_, ?_, ?_⟩
  · apply Prod.ext
    · simp [rAt, hx]
    · simp [rAt]; omega
  · intro i hi e
    have := congrArg Prod.snd e
    simp [rAt] at this
    omega
  · intro i hi
    unfold in32 at *
    simp only [rAt, Int.mul_zero, Int.add_zero, Int.mul_one]
    omega

theorem flat_pre {β : Type} {f : β → List C2} {pre L : List β} {x : β} {pre2 : List C2} {c : C2} (h : pre ++ [x] <+: L) (h2 : pre2 ++ [c] <+: f x) : (pre.flatMap f ++ pre2) ++ [c] <+: L.flatMap f := by
  obtain ⟨t, rfl⟩ := h
  obtain ⟨t2, h2⟩ := h2
  refine ⟨t2 ++ t.flatMap f, ?_⟩
  simp only [List.flatMap_append, List.flatMap_cons, List.flatMap_nil, List.append_nil, ← h2, List.append_assoc]
theorem row_32 {p q : C2} {s x : Int} (hp : latP p) (hq : latP q) (hs : 1 ≤ s) (h1 : p.1 < x * s) (h2 : x * s ≤ q.1) : in32 (theP p q s x).2 ∧ in32 (befP p q s x).2 := by
  obtain ⟨px, py⟩ := p
  obtain ⟨qx, qy⟩ := q
  unfold latP at hp hq
  dsimp only at *
  have hr := ris_bd (u := qy - py) (t := x * s - px) (A := qx - px) (by omega) (by omega) (by omega)
  have n1 : in32 (py + (qy - py) * (x * s - px) / (qx - px)) := by
    unfold in32
    by_cases h : 0 ≤ qy - py
    · have := hr.1 h; omega
    · have := hr.2.1 (by omega); omega
  refine ⟨ediv_32 hs n1, ?_⟩
  unfold befP
  dsimp only
  split
  · rename_i h
    have := hr.2.2 h
    exact ediv_32 hs (a := py + ((qy - py) * (x * s - px) - 1) / (qx - px)) (by unfold in32; omega)
  · exact ediv_32 hs n1
theorem edge_at {p q : C2} {s : Int} {k i : Nat} (hs : 1 ≤ s) (hk : q.1 / s = p.1 / s + k) (hi : i < k) : p.1 < (p.1 / s + (i + 1 : Nat)) * s ∧ (p.1 / s + (i + 1 : Nat)) * s ≤ q.1 := by
  refine ⟨?_, ?_⟩
  · have := Int.lt_ediv_add_one_mul_self p.1 (show 0 < s by omega)
    have h2 : (p.1 / s + 1) * s ≤ (p.1 / s + (i + 1 : Nat)) * s := Int.mul_le_mul_of_nonneg_right (by omega) (by omega)
    omega
  · have := Int.ediv_mul_le q.1 (show s ≠ 0 by omega)
    have h2 : (p.1 / s + (i + 1 : Nat)) * s ≤ q.1 / s * s := Int.mul_le_mul_of_nonneg_right (by rw [hk]; omega) (by omega)
    omega
theorem col_ok {p q : C2} {s : Int} {k i : Nat} (hp : latP p) (hq : latP q) (hs : 1 ≤ s) (hk : q.1 / s = p.1 / s + k) (hi : i ≤ k) : Runs (colP p q s k i).1 (colP p q s k i).2 (0, 1) ((colP p q s k i).2.2 - (colP p q s k i).1.2).toNat := by
  have p32 : in32 p.1 ∧ in32 p.2 := by unfold latP at hp; unfold in32; omega
  have q32 : in32 q.1 ∧ in32 q.2 := by unfold latP at hq; unfold in32; omega
  have d1 := ediv_32 hs p32.1
  have d2 := ediv_32 hs q32.1
  have hx1 := ent_x p q s i
  have hx2 : (leaP p q s k i).1 = p.1 / s + i := by
    unfold leaP
    split
    · simp [befP]; omega
    · have : i = k := by omega
      subst this
      exact hk
  have hy1 : in32 (entP p q s i).2 := by
    cases i with
    | zero => exact ediv_32 hs p32.2
    | succ j => obtain ⟨h1, h2⟩ := edge_at (i := j) hs hk (by omega); exact (row_32 hp hq hs h1 h2).1
  have hy2 : in32 (leaP p q s k i).2 := by
    unfold leaP
    split
    · rename_i h
      obtain ⟨h1, h2⟩ := edge_at (i := i) hs hk h
      exact (row_32 hp hq hs h1 h2).2
    · exact ediv_32 hs q32.2
  have hx3 : in32 (p.1 / s + i) := by unfold in32 at *; omega
  unfold colP byH
  split
  · rename_i h
    exact col_runs (by rw [hx1, hx2]) (by dsimp only; omega) ⟨by rw [hx2]; exact hx3, hy2⟩ hy1
  · rename_i h
    exact col_runs (by rw [hx1, hx2]) (by dsimp only; omega) ⟨by rw [hx1]; exact hx3, hy1⟩ hy2
theorem col_of {p q : C2} {s : Int} {k : Nat} {pre : List (C2 × C2)} {x : C2 × C2} (h : pre ++ [x] <+: colsL p q s k (k + 1)) : ∃ i, i ≤ k ∧ x = colP p q s k i := by
  have hm : x ∈ colsL p q s k (k + 1) := by
    obtain ⟨t, ht⟩ := h
    rw [← ht]; simp
  unfold colsL at hm
  obtain ⟨i, hi, e⟩ := List.mem_map.1 hm
  exact ⟨i, by rw [List.mem_range] at hi; omega, e.symm⟩

set_option maxRecDepth 100000 in
set_option maxHeartbeats 8000000 in
theorem line1_in (n : Nat) (hn : 12 ≤ n) (l bs bp bq : Nat) (p q : C2) (s : Int) (J : (Nat → Prop) → List C2 → World → Prop) (Jx : List C2 → World → Prop) (ps : Nat → Prop) (W : World)
    (ks : Bk W bs 2 [.int .i64 s]) (kp : Bk W bp 23 [.int .i32 p.1, .int .i32 p.2]) (kq : Bk W bq 23 [.int .i32 q.1, .int .i32 q.2])
    (hps : ∀ b, ps b → b < W.heap.size) (hJ : Con W.heap.size J) (hJx : OwnFrom W.heap.size Jx) (hok : (szB s && plB p.1 p.2 && plB q.1 q.2) = true)
    (hY : ∀ p' pre x W1, (∀ b, ps b → p' b) → (∀ b, p' b → b < W1.heap.size) → J p' pre W1 → W.heap.size ≤ W1.heap.size → pre ++ [x] <+: lineL p q s → YieldAt Fence.wide 0 Try.prog l (cEnc x) W1 (RoundEnds W.heap.size J Jx p' (pre ++ [x]) W1))
    (h0 : J ps [] W) :
    CallsIn Fence.wide n Try.prog 38 #[.func (.yield l) #[] #[], .pointer (some ⟨bs, 0, none⟩), .pointer (some ⟨bp, 0, none⟩), .pointer (some ⟨bq, 0, none⟩)] W fun e W' => (∃ v, e = .returned v) ∧
      ((∃ q', J q' (lineL p q s) W' ∧ ∀ b, ps b → q' b) ∨ (∃ pre, pre <+: lineL p q s ∧ Jx pre W')) := by
  have eL : lineL p q s = (colsL (ordP p q).1 (ordP p q).2 s (kOf (ordP p q).1 (ordP p q).2 s) (kOf (ordP p q).1 (ordP p q).2 s + 1)).flatMap colC := by unfold lineL; rw [if_pos hok]
  simp only [Bool.and_eq_true] at hok
  obtain ⟨⟨o1, o2⟩, o3⟩ := hok
  have hs := (szB_iff.1 o1).1
  obtain ⟨lP, lQ⟩ := ord_lat (lat_of o2) (lat_of o3)
  have hk := kOf_eq (ord_le p q) hs
  have S1 : Hid (∀ w, Calls Try.prog 30 #[.int .i64 s] w fun e w' => e = .returned (.bool true) ∧ w' = w) := fun w => by have := isSize_any s w; rw [o1] at this; exact this
  have S2 : Hid (∀ w, Calls Try.prog 39 #[pt p.1 p.2] w fun e w' => e = .returned (.bool true) ∧ Gr w w') := fun w => by have := isPlace_any p.1 p.2 w; rw [o2] at this; exact this
  have S3 : Hid (∀ w, Calls Try.prog 39 #[pt q.1 q.2] w fun e w' => e = .returned (.bool true) ∧ Gr w w') := fun w => by have := isPlace_any q.1 q.2 w; rw [o3] at this; exact this
  have S4 := hid0 (columns_any p q s)
  generalize hPQ : ordP p q = PQ at *
  obtain ⟨P, Q⟩ := PQ
  dsimp only at *
  generalize hkk : kOf P Q s = k at *
  generalize hLL : lineL p q s = L at *
  clear hPQ hkk hLL o1 o2 o3
  refine callsIn_of_wp_marks Try.func38 rfl trivial ?_ rfl
  simp only [Try.ntmps38, List.size_toArray, List.length_cons, List.length_nil, Nat.reduceAdd, Nat.reduceSub, Array.replicate_succ, Array.replicate_zero, List.push_toArray, List.append_toArray, List.nil_append, List.cons_append]
  have h1n : 1 ≤ n := by omega
  have b4 := Bk.new W 62 [.func (.yield l) #[] #[]]
  have g4 : Gr W (W.alloc (.cells #[.func (.yield l) #[] #[]] 62)) := (Gr.refl _).alloc _
  gi_upto_region 1 with fail
  generalize W.alloc (.cells #[.func (.yield l) #[] #[]] 62) = W1 at *
  have s0 := (ks.gr g4).one
  obtain ⟨p0, p1⟩ := (kp.gr g4).two
  gi_upto_region 2 with (first
    | (refine (callsIn_wide.2 (S1.out _)).mono ?_; rintro e w1 ⟨rfl, rfl⟩; clear S1)
    | (refine (callsIn_wide.2 (S2.out _)).mono ?_; rintro e w2 ⟨rfl, g2⟩; clear S2; obtain ⟨q0, q1⟩ := (kq.gr (g4.trans g2)).two)
    | (refine (callsIn_wide.2 (S3.out _)).mono ?_; rintro e w3 ⟨rfl, g3⟩; clear S3))
  -- the loop over the columns
  have gA : Gr W w3 := (g4.trans g2).trans g3
  have b4' := (b4.gr g2).gr g3
  have s0' := (ks.gr gA).one
  obtain ⟨p0', p1'⟩ := (kp.gr gA).two
  obtain ⟨q0', q1'⟩ := (kq.gr gA).two
  clear b4 g4 g2 g3 s0 p0 p1 q0 q1
  gi_wp2_with (refine (callsIn_wide.2 (S4.out _)).mono ?_; rintro e W0 ⟨rfl, c1, c2, c3, g5⟩)
  clear s0' p0' p1' q0' q1' S4
  have gW := gA.trans g5
  have b4 := b4'.gr g5
  have hw3 := gA.size
  have hlt3 : w3.heap.size + 2 < W0.heap.size := c3.lt
  have e47 : ∀ args w, (callFunc 47 args).run Try.prog w = .ok (.enter 47 args) w := enters_of Try.func47 (by kernel_rfl) rfl
  refine range_out (p0 := fun b => b = w3.heap.size ∨ b = w3.heap.size + 1 ∨ b = w3.heap.size + 2) (L := colsL P Q s k (k + 1)) (encs := kEnc) (I := LnO colC J W.heap.size l ps W) (Ix := LnX Jx L)
    (Ax := fun x a' A => ∃ B5 B6, W0.heap.size ≤ B5 ∧ W0.heap.size ≤ B6 ∧ Bk A B5 26 [.int .i32 x.1.1, .int .i32 x.1.2] ∧ Bk A B6 26 [.int .i32 x.2.1, .int .i32 x.2.2] ∧ a' = { tmps := #[.func (.yield l) #[] #[], .pointer (some ⟨bs, 0, none⟩), .pointer (some ⟨bp, 0, none⟩), .pointer (some ⟨bq, 0, none⟩), .pointer (some ⟨W.heap.size, 0, none⟩), .pointer (some ⟨B5, 0, none⟩), .pointer (some ⟨B6, 0, none⟩), undef, .int .i64 s, .bool true, .bool false, .bool false, Value.agg #[.int .i32 p.1, .int .i32 p.2], .bool true, .bool false, .bool false, .bool false, Value.agg #[.int .i32 q.1, .int .i32 q.2], .bool true, .bool false, .bool false, Value.agg #[.int .i32 p.1, .int .i32 p.2], Value.agg #[.int .i32 q.1, .int .i32 q.2], .int .i64 s, .func (.func 48) #[] #[.pointer (some ⟨w3.heap.size, 0, none⟩), .pointer (some ⟨w3.heap.size + 2, 0, none⟩), .pointer (some ⟨w3.heap.size + 1, 0, none⟩)], cv x.1, cv x.2, undef, undef, undef, undef, undef, undef, undef, undef, undef], defers := [] })
    rfl (enters_of Try.func48 (by kernel_rfl) rfl) (cols_seq (n - 1) (by omega) w3.heap.size (w3.heap.size + 2) (w3.heap.size + 1) P Q s k lP lQ hs hk _ W0 c1 c3 c2 (.inl rfl) (.inr (.inr rfl)) (.inr (.inl rfl)))
    ?owes (fun b => (((ps b ∨ b = W.heap.size) ∨ b = w3.heap.size) ∨ b = w3.heap.size + 1) ∨ b = w3.heap.size + 2) ?p0 ?pw ?start ?done ?stop
  case p0 =>
    rintro b (h | h | h)
    · exact .inl (.inl (.inr h))
    · exact .inl (.inr h)
    · exact .inr h
  case pw =>
    rintro b ((((h | h) | h) | h) | h)
    · have := hps b h; have := gW.size; omega
    · have := b4.lt; omega
    · omega
    · omega
    · omega
  case start =>
    refine ⟨_, fun c h => h, hJ.gr (hJ.new _ _ _ _ (hJ.new _ _ _ _ (hJ.new _ _ _ _ (hJ.new _ _ _ _ h0 (Nat.le_refl _)) hw3) (by omega)) (by omega)) gW, .inl (.inl (.inl (.inr rfl))), fun c hc => .inl (.inl (.inl (.inl hc))), b4, gW.size⟩
  case done =>
    rintro D q' A hD ⟨q2, h1, h2, h3, h4, h5, h6⟩ hq hK
    rw [← eL] at h2
    gi_wp2
    refine ⟨by simp, .inl ⟨_, _, rfl, run_takeDeferred hK, ?_⟩⟩
    exact ⟨_, results_none rfl _ _ _, ⟨_, rfl⟩, .inl ⟨q2, (hJ.ownFrom q2).putObj _ h2 (by have := gW.size; omega) hK rfl, h4⟩⟩
  case stop =>
    rintro D c pre A hD hpre ⟨rfl, u, hu, hx⟩ hK
    gi_wp2
    refine ⟨by simp, .inl ⟨_, _, rfl, run_takeDeferred hK, ?_⟩⟩
    exact ⟨_, results_none rfl _ _ _, ⟨_, rfl⟩, .inr ⟨u, hu, hJx.putObj _ hx (by have := gW.size; omega) hK rfl⟩⟩
  case owes =>
    have hcO : Con W0.heap.size (LnO colC J W.heap.size l ps W) := lno_con hJ gW.size b4.lt
    refine ⟨hcO, lnx_con hJx gW.size, ?_, fun _ => rfl, ?_, ?_⟩
    · rintro x a' _ X Y row ⟨B5, B6, e1, e2, e3, e4, e5⟩ hg hr
      exact ⟨B5, B6, e1, e2, bk_own e3 hg hr, bk_own e4 hg hr, e5⟩
    · rintro lr p' pre x A K hp hpb hI hsA hK
      have g : Gr A ((A.alloc (.cells #[.int .i32 x.1.1, .int .i32 x.1.2] 26)).alloc (.cells #[.int .i32 x.2.1, .int .i32 x.2.2] 26)) := ((Gr.refl _).alloc _).alloc _
      gi_wp2
      refine hK _ _ (g.from _) (Kp.gr hpb g) (hcO.gr hI g) ⟨A.heap.size, A.heap.size + 1, hsA, by omega, (Bk.new A 26 _).alloc _, ?_, rfl⟩
      have := Bk.new (A.alloc (.cells #[.int .i32 x.1.1, .int .i32 x.1.2] 26)) 26 [.int .i32 x.2.1, .int .i32 x.2.2]
      rwa [World.size_alloc] at this
    · rintro lr p' pre x a' Wb hl ⟨r, hr⟩ hp hpb ⟨qq, j0, j1, j2, j3, j4, j5⟩ ⟨B5, B6, hB5, hB6, k5, k6, rfl⟩ hpre
      have h2n : 1 ≤ n - 1 - 1 := by omega
      obtain ⟨x0, x1⟩ := k5.two
      obtain ⟨y0, y1⟩ := k6.two
      have R37 := hid0 (run_any x.1 x.2 (0, 1))
      obtain ⟨ci, hci, hxc⟩ := col_of hpre
      have hRun : Runs x.1 x.2 (0, 1) (x.2.2 - x.1.2).toNat := by rw [hxc]; exact col_ok lP lQ hs hk hci
      have HRun := hid0 hRun
      have HX := hid0 hxc
      clear hRun hxc
      gi_wp2_with (refine (CallsIn.inRound lr (callsIn_wide.2 (R37.out _))).mono ?_; rintro e W5 ⟨rfl, rfl⟩)
      have g5' : Gr Wb (((Wb.alloc (.cells #[.int .i32 x.1.1, .int .i32 x.1.2] 26)).alloc (.cells #[.int .i32 x.2.1, .int .i32 x.2.2] 26)).alloc (.cells #[.int .i32 0, .int .i32 1] 26)) := (((Gr.refl _).alloc _).alloc _).alloc _
      have m1 := ((Bk.new Wb 26 [.int .i32 x.1.1, .int .i32 x.1.2]).alloc (.cells #[.int .i32 x.2.1, .int .i32 x.2.2] 26)).alloc (.cells #[.int .i32 0, .int .i32 1] 26)
      have m2 := (Bk.new (Wb.alloc (.cells #[.int .i32 x.1.1, .int .i32 x.1.2] 26)) 26 [.int .i32 x.2.1, .int .i32 x.2.2]).alloc (.cells #[.int .i32 0, .int .i32 1] 26)
      have m3 := Bk.new ((Wb.alloc (.cells #[.int .i32 x.1.1, .int .i32 x.1.2] 26)).alloc (.cells #[.int .i32 x.2.1, .int .i32 x.2.2] 26)) 26 [.int .i32 0, .int .i32 1]
      simp only [World.size_alloc] at m2 m3
      generalize ((Wb.alloc (.cells #[.int .i32 x.1.1, .int .i32 x.1.2] 26)).alloc (.cells #[.int .i32 x.2.1, .int .i32 x.2.2] 26)).alloc (.cells #[.int .i32 0, .int .i32 1] 26) = W5 at *
      clear x0 x1 y0 y1 R37
      have hlr : lr < Wb.heap.size := (Array.getElem?_eq_some_iff.1 hr).1
      have hl5 : W5.heap[lr]? = some (.loop r) := (g5'.below.block lr hlr).trans hr
      have h3lt : Wb.heap.size + 2 < W5.heap.size := m3.lt
      have hWWb : W.heap.size ≤ Wb.heap.size := j5
      have hW0 : W0.heap.size ≤ Wb.heap.size := by omega
      have j4' := j4.gr g5'
      refine range_in (p0 := fun b => b = Wb.heap.size ∨ b = Wb.heap.size + 1 ∨ b = Wb.heap.size + 2) (L := colC x) (encs := cEnc) (I := LnI J W.heap.size l ps W Wb W0.heap.size p' (pre.flatMap colC)) (Ix := LnY Jx L Wb W0.heap.size)
        (Ax := fun c a' A => ∃ B7, W5.heap.size ≤ B7 ∧ Bk A B7 26 [.int .i32 c.1, .int .i32 c.2] ∧ a' = { tmps := #[.func (.yield l) #[] #[], .pointer (some ⟨bs, 0, none⟩), .pointer (some ⟨bp, 0, none⟩), .pointer (some ⟨bq, 0, none⟩), .pointer (some ⟨W.heap.size, 0, none⟩), .pointer (some ⟨B5, 0, none⟩), .pointer (some ⟨B6, 0, none⟩), .pointer (some ⟨B7, 0, none⟩), .int .i64 s, .bool true, .bool false, .bool false, Value.agg #[.int .i32 p.1, .int .i32 p.2], .bool true, .bool false, .bool false, .bool false, Value.agg #[.int .i32 q.1, .int .i32 q.2], .bool true, .bool false, .bool false, Value.agg #[.int .i32 p.1, .int .i32 p.2], Value.agg #[.int .i32 q.1, .int .i32 q.2], .int .i64 s, .func (.func 48) #[] #[.pointer (some ⟨w3.heap.size, 0, none⟩), .pointer (some ⟨w3.heap.size + 2, 0, none⟩), .pointer (some ⟨w3.heap.size + 1, 0, none⟩)], cv x.1, cv x.2, Value.agg #[.int .i32 x.1.1, .int .i32 x.1.2], Value.agg #[.int .i32 x.2.1, .int .i32 x.2.2], pt 0 1, .func (.func 47) #[] #[.pointer (some ⟨Wb.heap.size, 0, none⟩), .pointer (some ⟨Wb.heap.size + 1, 0, none⟩), .pointer (some ⟨Wb.heap.size + 2, 0, none⟩)], cv c, undef, undef, undef, undef], defers := [] }) hl5
        rfl e47 (run_seq (n - 1 - 1 - 1) Wb.heap.size (Wb.heap.size + 1) (Wb.heap.size + 2) x.1 x.2 (0, 1) _ HRun.out _ W5 m1 m2 m3 (.inl rfl) (.inr (.inl rfl)) (.inr (.inr rfl)))
        ?owes (fun b => ((p' b ∨ b = Wb.heap.size) ∨ b = Wb.heap.size + 1) ∨ b = Wb.heap.size + 2) ?p0 ?pw ?start ?done ?stop
      case p0 =>
        rintro b (h | h | h)
        · exact .inl (.inl (.inr h))
        · exact .inl (.inr h)
        · exact .inr h
      case pw =>
        rintro b (((h | h) | h) | h)
        · have := hpb b h; have := g5'.size; omega
        · omega
        · omega
        · omega
      case start =>
        refine ⟨fun b => ((qq b ∨ b = Wb.heap.size) ∨ b = Wb.heap.size + 1) ∨ b = Wb.heap.size + 2, ?_, ?_, .inl (.inl (.inl j2)), fun c hc => .inl (.inl (.inl (j3 c hc))), j4', Nat.le_trans hWWb g5'.size, fun c hc => .inl (.inl (.inl (j0 c hc))), Kp.gr hpb g5', g5'.from _⟩
        · rintro c (((h | h) | h) | h)
          · exact .inl (.inl (.inl (j0 c h)))
          · exact .inl (.inl (.inr h))
          · exact .inl (.inr h)
          · exact .inr h
        · rw [List.append_nil]
          exact hJ.gr (hJ.new _ _ _ _ (hJ.new _ _ _ _ (hJ.new _ _ _ _ j1 (Nat.le_refl _)) (by omega)) (by omega)) g5'
      case done =>
        rintro q' A ⟨q2, i0, i1, i2, i3, i4, i5, i6, i7, i8⟩ hq
        exact ⟨i8, i7, q2, i6, by rw [List.flatMap_append, List.flatMap_cons, List.flatMap_nil, List.append_nil]; exact i1, i2, i3, i4, i5⟩
      case stop =>
        rintro c pre2 A hpre2 ⟨rfl, hu, hk2⟩
        gi_wp2
        exact ⟨hk2, rfl, hu⟩
      case owes =>
        have hcI : Con W5.heap.size (LnI J W.heap.size l ps W Wb W0.heap.size p' (pre.flatMap colC)) := lni_con hJ (Nat.le_trans hWWb g5'.size) j4'.lt g5'.size hpb
        refine ⟨hcI, lny_con hJx (Nat.le_trans hWWb g5'.size) g5'.size, ?_, fun _ => rfl, ?_, ?_⟩
        · rintro c a' _ X Y row ⟨B7, e1, e2, e3⟩ hg hr
          exact ⟨B7, e1, bk_own e2 hg hr, e3⟩
        · rintro l2 p2 pre2 c A K hp2 hpb2 hI hsA hK
          have g : Gr A (A.alloc (.cells #[.int .i32 c.1, .int .i32 c.2] 26)) := (Gr.refl _).alloc _
          gi_wp2
          exact hK _ _ (g.from _) (Kp.gr hpb2 g) (hcI.gr hI g) ⟨A.heap.size, hsA, Bk.new A 26 _, rfl⟩
        · rintro l2 p2 pre2 c a' A hl2 ⟨r2, hr2⟩ hp2 hpb2 ⟨q2, i0, i1, i2, i3, i4, i5, i6, i7, i8⟩ ⟨B7, hB7, k7, rfl⟩ hpre2
          have h3n : 1 ≤ n - 1 - 1 - 1 - 1 := by omega
          have y0 := i4.one
          obtain ⟨z0, z1⟩ := k7.two
          have hy := hY (fun b => q2 b ∧ b < A.heap.size) (pre.flatMap colC ++ pre2) c A (fun b hb => ⟨i3 b hb, by have := hps b hb; omega⟩) (fun b hb => hb.2) (hJ.sub _ _ _ _ i1 (fun b hb => hb.1)) i5 (by rw [eL]; exact flat_pre hpre hpre2)
          obtain ⟨fn, tmps, assign, body, hy, hRd⟩ := yield_round (l0 := l2) (yield_depth (n - 1 - 1 - 1 - 1 - 1) hy)
          dsimp only [cEnc] at hy
          gi_wp2
          refine hRd.mono ?_
          have hB : W.heap.size ≤ W5.heap.size := Nat.le_trans hWWb g5'.size
          rintro e A' (⟨rfl, hJ', hk', hf'⟩ | ⟨rfl, hJx', hf'⟩)
          · gi_wp2
            refine ⟨keepsFrom_mono hf' hB, fun b hb => hk' b ⟨i0 b hb, hpb2 b hb⟩, fun b => q2 b ∧ b < A.heap.size, fun b hb => ⟨i0 b hb, hpb2 b hb⟩, ?_, ⟨i2, i4.lt⟩, fun b hb => ⟨i3 b hb, by have := hps b hb; omega⟩, i4.same (hk' _ ⟨i2, i4.lt⟩), Nat.le_trans i5 hf'.size, fun b hb => ⟨i6 b hb, by have h1 := hpb b hb; have h2 := i8.size; omega⟩, i7.t (fun b hb => hk' b ⟨i6 b hb, by have h1 := hpb b hb; have h2 := i8.size; omega⟩), i8.trans (keepsFrom_mono hf' gW.size)⟩
            rw [← List.append_assoc]; exact hJ'
          · gi_wp2
            exact ⟨keepsFrom_mono hf' hB, rfl, ⟨_, by rw [eL]; exact flat_pre hpre hpre2, hJx'⟩, i8.trans (keepsFrom_mono hf' gW.size)⟩

set_option maxRecDepth 100000 in
set_option maxHeartbeats 4000000 in
/-- Where the size is none or a point is not of the lattice nothing is told. -/
theorem line0_in (n : Nat) (hn : 12 ≤ n) (l bs bp bq : Nat) (p q : C2) (s : Int) (J : (Nat → Prop) → List C2 → World → Prop) (ps : Nat → Prop) (W : World)
    (ks : Bk W bs 2 [.int .i64 s]) (kp : Bk W bp 23 [.int .i32 p.1, .int .i32 p.2]) (kq : Bk W bq 23 [.int .i32 q.1, .int .i32 q.2])
    (hJ : Con W.heap.size J) (hok : (szB s && plB p.1 p.2 && plB q.1 q.2) = false) (h0 : J ps [] W) :
    CallsIn Fence.wide n Try.prog 38 #[.func (.yield l) #[] #[], .pointer (some ⟨bs, 0, none⟩), .pointer (some ⟨bp, 0, none⟩), .pointer (some ⟨bq, 0, none⟩)] W fun e W' => (∃ v, e = .returned v) ∧ J ps [] W' := by
  have S1 := hid0 (isSize_any s)
  have S2 := hid0 (isPlace_any p.1 p.2)
  have S3 := hid0 (isPlace_any q.1 q.2)
  generalize szB s = b1 at *
  generalize plB p.1 p.2 = b2 at *
  generalize plB q.1 q.2 = b3 at *
  have h1n : 1 ≤ n := by omega
  have g4 : Gr W (W.alloc (.cells #[.func (.yield l) #[] #[]] 62)) := (Gr.refl _).alloc _
  have s0 := (ks.gr g4).one
  obtain ⟨p0, p1⟩ := (kp.gr g4).two
  have HQ := hid0 kq
  refine callsIn_of_wp_marks Try.func38 rfl trivial ?_ rfl
  simp only [Try.ntmps38, List.size_toArray, List.length_cons, List.length_nil, Nat.reduceAdd, Nat.reduceSub, Array.replicate_succ, Array.replicate_zero, List.push_toArray, List.append_toArray, List.nil_append, List.cons_append]
  gi_upto_region 1 with fail
  generalize W.alloc (.cells #[.func (.yield l) #[] #[]] 62) = W1 at *
  cases b1
  · gi_wp2_with (refine (callsIn_wide.2 (S1.out _)).mono ?_; rintro e w1 ⟨rfl, rfl⟩)
    refine ⟨_, results_none rfl _ _ _, ⟨_, rfl⟩, hJ.gr h0 g4⟩
  · cases b2
    · gi_wp2_with (first
        | (refine (callsIn_wide.2 (S1.out _)).mono ?_; rintro e w1 ⟨rfl, rfl⟩; clear S1)
        | (refine (callsIn_wide.2 (S2.out _)).mono ?_; rintro e w2 ⟨rfl, g2⟩; clear S2))
      refine ⟨_, results_none rfl _ _ _, ⟨_, rfl⟩, hJ.gr h0 (g4.trans g2)⟩
    · cases b3
      · gi_wp2_with (first
          | (refine (callsIn_wide.2 (S1.out _)).mono ?_; rintro e w1 ⟨rfl, rfl⟩; clear S1)
          | (refine (callsIn_wide.2 (S2.out _)).mono ?_; rintro e w2 ⟨rfl, g2⟩; clear S2; obtain ⟨q0, q1⟩ := (HQ.out.gr (g4.trans g2)).two)
          | (refine (callsIn_wide.2 (S3.out _)).mono ?_; rintro e w3 ⟨rfl, g3⟩; clear S3))
        refine ⟨_, results_none rfl _ _ _, ⟨_, rfl⟩, hJ.gr h0 ((g4.trans g2).trans g3)⟩
      · cases hok

theorem line_seq (n : Nat) (hn : 12 ≤ n) (bs bp bq : Nat) (p q : C2) (s : Int) (p0 : Nat → Prop) (w : World)
    (ks : Bk w bs 2 [.int .i64 s]) (kp : Bk w bp 23 [.int .i32 p.1, .int .i32 p.2]) (kq : Bk w bq 23 [.int .i32 q.1, .int .i32 q.2]) (hs : p0 bs) (hp : p0 bp) (hq : p0 bq) :
    SeqO n 38 #[.pointer (some ⟨bs, 0, none⟩), .pointer (some ⟨bp, 0, none⟩), .pointer (some ⟨bq, 0, none⟩)] cEnc (lineL p q s) p0 w := fun l J Jx ps W hk hp0 hpb _ hJ hJx hY h0 => by
  cases hok : (szB s && plB p.1 p.2 && plB q.1 q.2) with
  | true => exact line1_in n hn l bs bp bq p q s J Jx ps W (ks.same (hk _ hs)) (kp.same (hk _ hp)) (kq.same (hk _ hq)) hpb hJ hJx hok (fun p' pre x W1 h1 h2 h3 h4 h5 => hY p' pre x W1 (fun b hb => h1 b (hp0 b hb)) h2 h3 h4 h5) h0
  | false =>
    have e : lineL p q s = [] := by unfold lineL; rw [hok]; rfl
    rw [e]
    refine (line0_in n hn l bs bp bq p q s J ps W (ks.same (hk _ hs)) (kp.same (hk _ hp)) (kq.same (hk _ hq)) hJ hok h0).mono ?_
    rintro e W' ⟨h1, h2⟩
    exact ⟨h1, .inl ⟨ps, h2, fun b h => h⟩⟩

set_option maxHeartbeats 1000000 in
theorem line_any (p q : C2) (s : Int) (w : World) :
    Calls Try.prog 18 #[cv p, cv q, .int .i64 s] w fun e w' => e = .returned (.func (.func 38) #[] #[.pointer (some ⟨w.heap.size + 2, 0, none⟩), .pointer (some ⟨w.heap.size, 0, none⟩), .pointer (some ⟨w.heap.size + 1, 0, none⟩)]) ∧
      Bk w' w.heap.size 23 [.int .i32 p.1, .int .i32 p.2] ∧ Bk w' (w.heap.size + 1) 23 [.int .i32 q.1, .int .i32 q.2] ∧ Bk w' (w.heap.size + 2) 2 [.int .i64 s] ∧ Gr w w' := by
  have k3 := ((Bk.new w 23 [.int .i32 p.1, .int .i32 p.2]).alloc (.cells #[.int .i32 q.1, .int .i32 q.2] 23)).alloc (.cells #[.int .i64 s] 2)
  have k4 := (Bk.new (w.alloc (.cells #[.int .i32 p.1, .int .i32 p.2] 23)) 23 [.int .i32 q.1, .int .i32 q.2]).alloc (.cells #[.int .i64 s] 2)
  have k5 := Bk.new ((w.alloc (.cells #[.int .i32 p.1, .int .i32 p.2] 23)).alloc (.cells #[.int .i32 q.1, .int .i32 q.2] 23)) 2 [.int .i64 s]
  simp only [World.size_alloc] at k4 k5
  go_enter Try.func18, Try.ntmps18
  go_wp2
  go_ret
  exact ⟨by simp, k3, k4, k5, (((Gr.refl _).alloc _).alloc _).alloc _⟩

/-- The first cells of a line, in a row of their own. -/
theorem firstLine (p q : C2) (s : Int) (w : World) (bs bp bq : Nat) (ks : Bk w bs 2 [.int .i64 s]) (kp : Bk w bp 23 [.int .i32 p.1, .int .i32 p.2]) (kq : Bk w bq 23 [.int .i32 q.1, .int .i32 q.2]) :
    Calls Try.prog 16 #[.func (.func 38) #[] #[.pointer (some ⟨bs, 0, none⟩), .pointer (some ⟨bp, 0, none⟩), .pointer (some ⟨bq, 0, none⟩)]] w fun e w' => ∃ v, e = .returned v ∧ w'.ownsRow w.heap.size 26 2 v ((lineL p q s).take 401).length (flat ((lineL p q s).take 401)) ∧ Below w.heap.size w w' :=
  callsIn_wide.1 (first_in 20 (by omega) 38 _ (lineL p q s) (fun b => b = bs ∨ b = bp ∨ b = bq) w (by rintro b (rfl | rfl | rfl); exact ks.lt; exact kp.lt; exact kq.lt) (enters_of Try.func38 (by kernel_rfl) rfl)
    (line_seq 19 (by omega) bs bp bq p q s _ w ks kp kq (.inl rfl) (.inr (.inl rfl)) (.inr (.inr rfl))))
end Go.Proofs.Ytmoddfikhipagaa
