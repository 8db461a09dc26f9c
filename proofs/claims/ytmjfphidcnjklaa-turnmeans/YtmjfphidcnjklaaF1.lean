/- Floating-point words up to which of the words it is that are no number: operations as functions, and the walk's laws of them. -/
import Derived.Test.YtmjfphidcnjklaaSumP
import Derived.Test.YtmjfphidcnjklaaBase
namespace Go.Proofs.Ytmjfphidcnjklaa
open Go.RowKit Go.Sort Ieee

theorem cut_nan (x y t : Nat) : isN ((Question.nanBits .f64 x y).cut t) ∧ (Question.nanBits .f64 x y).cut t < 18446744073709551616 := by
  show isN ((t % 2) * 2 ^ 63 + 0x7ff0000000000000 + 1 + (t / 2) % (2 ^ 52 - 1)) ∧ (t % 2) * 2 ^ 63 + 0x7ff0000000000000 + 1 + (t / 2) % (2 ^ 52 - 1) < 18446744073709551616
  unfold isN
  have h1 : t % 2 < 2 := Nat.mod_lt _ (by decide)
  have h2 : (t / 2) % (2 ^ 52 - 1) < 2 ^ 52 - 1 := Nat.mod_lt _ (by decide)
  generalize (t / 2) % (2 ^ 52 - 1) = u at *
  generalize t % 2 = v at *
  rcases (show v = 0 ∨ v = 1 from by omega) with rfl | rfl <;> omega

/-- An operation on two words: one word for all that are no number. -/
def fo (op : BinOp) (a b : Nat) : Nat := (floatBits op .f64 a b).getD 9221120237041090561
/-- r is the word x, or none of the two is a number. -/
def V (r x : Nat) : Prop := r < 18446744073709551616 ∧ x < 18446744073709551616 ∧ sim r x
theorem fo_arR (op : BinOp) (a b : Nat) : arR op a b (fo op a b) := by
  unfold fo
  cases h : floatBits op .f64 a b with
  | none => exact .inr ⟨h, by show isN 9221120237041090561; decide, by show (9221120237041090561 : Nat) < _; decide⟩
  | some c => exact .inl h
theorem fo_lt (op : BinOp) (a b : Nat) : fo op a b < 18446744073709551616 := arR_lt (fo_arR op a b)
theorem V.refl {a : Nat} (h : a < 18446744073709551616) : V a a := ⟨h, h, .inl rfl⟩
theorem V.fo {op : BinOp} {a b r A B : Nat} (h : arR op a b r) (ha : V a A) (hb : V b B) : V r (fo op A B) :=
  ⟨arR_lt h, fo_lt _ _ _, arR_sim h (fo_arR op A B) ha.2.2 hb.2.2⟩
theorem sim.symm {a b : Nat} (h : sim a b) : sim b a := by rcases h with h | h; exact .inl h.symm; exact .inr ⟨h.2, h.1⟩
theorem sim.trans {a b c : Nat} (h : sim a b) (k : sim b c) : sim a c := by
  rcases h with rfl | ⟨h1, h2⟩
  · exact k
  · rcases k with rfl | ⟨_, k2⟩
    · exact .inr ⟨h1, h2⟩
    · exact .inr ⟨h1, k2⟩
theorem V.both {a b x : Nat} (h : V a x) (k : V b x) : sim a b := h.2.2.trans k.2.2.symm
theorem V.nan {a x : Nat} (h : V a x) : isN a ↔ isN x := by
  rcases h.2.2 with rfl | ⟨h1, h2⟩
  · exact Iff.rfl
  · exact ⟨fun _ => h2, fun _ => h1⟩
theorem V.order {a b A B : Nat} (h : V a A) (k : V b B) : double.order a b = double.order A B := by
  rcases h.2.2 with rfl | ⟨h1, h2⟩
  · rcases k.2.2 with rfl | ⟨k1, k2⟩
    · rfl
    · rw [order_nan_r _ k1, order_nan_r _ k2]
  · rw [order_nan_l _ h1, order_nan_l _ h2]
theorem V.eq {a x : Nat} (h : V a x) (hx : ¬ isN x) : a = x := by
  rcases h.2.2 with h | ⟨_, h⟩
  · exact h
  · exact absurd h hx

theorem run_fl (op : BinOp) (hop : op = .add ∨ op = .sub ∨ op = .mul ∨ op = .quo) (a b : Nat) (w : World) :
    ∃ r n, (Op.floatArith op .f64 a b).run Try.prog w = .ok (.float .f64 r) (w.drewN n) ∧ arR op a b r := by
  cases h : floatBits op .f64 a b with
  | some r => exact ⟨r, 0, run_floatArith w h, .inl h⟩
  | none =>
    refine ⟨(Question.nanBits .f64 a b).cut (w.tape w.drawn (.nanBits .f64 a b)), 1, ?_, .inr ⟨h, (cut_nan _ _ _).1, (cut_nan _ _ _).2⟩⟩
    rw [← World.drew_is_drewN]
    unfold floatBits at h
    rcases hop with rfl | rfl | rfl | rfl <;> simp only at h <;> simp [Op.floatArith, h] <;> intro hf <;> cases hf
theorem run_ar (op : BinOp) (hop : op = .add ∨ op = .sub ∨ op = .mul ∨ op = .quo) (a b : Nat) (w : World) :
    ∃ r n, (binOp op 31 (.float .f64 a) (.float .f64 b)).run Try.prog w = .ok (.float .f64 r) (w.drewN n) ∧ arR op a b r := by
  obtain ⟨r, n, h1, h2⟩ := run_fl op hop a b w
  refine ⟨r, n, ?_, h2⟩
  rcases hop with rfl | rfl | rfl | rfl <;> simpa [binOp] using h1
theorem run_cx (op : BinOp) (hop : op = .add ∨ op = .sub) (a b c d : Nat) (w : World) :
    ∃ r s n, (binOp op 26 (.complex .f64 a b) (.complex .f64 c d)).run Try.prog w = .ok (.complex .f64 r s) (w.drewN n) ∧ arR op a c r ∧ arR op b d s := by
  have hop4 : op = .add ∨ op = .sub ∨ op = .mul ∨ op = .quo := by rcases hop with h | h; exact .inl h; exact .inr (.inl h)
  obtain ⟨r, m, h1, h2⟩ := run_fl op hop4 a c w
  obtain ⟨s, n, k1, k2⟩ := run_fl op hop4 b d (w.drewN m)
  rw [World.drewN_drewN] at k1
  refine ⟨r, s, m + n, ?_, h2, k2⟩
  rcases hop with rfl | rfl <;> simp [binOp, Op.complexOp, Op.Complex.arith, h1, k1]
/-- The walk's laws of both. -/
theorem wpList_fl (w : World) {ops : Array Oper} {rest : List Oper} {o : Oper} {a : Act} {Q : Exit → Act → World → Prop}
    (hg : o.guard = none) (op : BinOp) (hop4 : op = .add ∨ op = .sub ∨ op = .mul ∨ op = .quo) (x y : Operand) (hop : o.op = Op.binOp op 31 x y 31) (p q : Nat) (hx : a.eval x = .float .f64 p) (hy : a.eval y = .float .f64 q)
    {A B : Nat} (hA : V p A) (hB : V q B)
    (hK : ∀ r n, V r (fo op A B) → wpList Try.prog ops Q rest (a.put o.dst (.float .f64 r)) (w.drewN n)) : wpList Try.prog ops Q (o :: rest) a w := by
  refine wpList_plain hg fun K hK' => ?_
  obtain ⟨r, n, hrun, h1⟩ := run_ar op hop4 p q w
  unfold Oper.wp
  rcases hop4 with rfl | rfl | rfl | rfl <;> simp [execOp, hop, hx, hy, eqGuard, hrun, Result.andThen] <;> exact hK' _ _ (hK r n (V.fo h1 hA hB))
theorem wpList_cx (w : World) {ops : Array Oper} {rest : List Oper} {o : Oper} {a : Act} {Q : Exit → Act → World → Prop}
    (hg : o.guard = none) (op : BinOp) (hop2 : op = .add ∨ op = .sub) (x y : Operand) (hop : o.op = Op.binOp op 26 x y 26) (p q u v : Nat) (hx : a.eval x = .complex .f64 p q) (hy : a.eval y = .complex .f64 u v)
    {A B C D : Nat} (hA : V p A) (hB : V q B) (hC : V u C) (hD : V v D)
    (hK : ∀ r s n, V r (fo op A C) → V s (fo op B D) → wpList Try.prog ops Q rest (a.put o.dst (.complex .f64 r s)) (w.drewN n)) : wpList Try.prog ops Q (o :: rest) a w := by
  refine wpList_plain hg fun K hK' => ?_
  obtain ⟨r, s, n, hrun, h1, h2⟩ := run_cx op hop2 p q u v w
  unfold Oper.wp
  rcases hop2 with rfl | rfl <;> simp [execOp, hop, hx, hy, eqGuard, hrun, Result.andThen] <;> exact hK' _ _ (hK r s n (V.fo h1 hA hC) (V.fo h2 hB hD))

/-- The block of a variable of the call's own. -/
def Bl (w : World) (b t : Nat) (vs : Array Value) : Prop := w.heap[b]? = some (.cells vs t (0, 0))
theorem Bl.lt {w : World} {b t : Nat} {vs : Array Value} (h : Bl w b t vs) : b < w.heap.size := lt_of_block h
theorem Bl.cell {w : World} {b t : Nat} {vs : Array Value} (h : Bl w b t vs) {i : Nat} {v : Value} (hv : vs[i]? = some v) : w.cell? ⟨b, i, none⟩ = some v := by unfold Bl at h; simp [World.cell?, h, hv]
theorem Bl.fro {w : World} {b t : Nat} {vs : Array Value} (h : Bl w b t vs) (i : Nat) : w.frozen? ⟨b, i, none⟩ = false := by unfold Bl at h; simp [World.frozen?, h]
theorem Bl.gr {w w' : World} {b t : Nat} {vs : Array Value} (h : Bl w b t vs) (g : Gr w w') : Bl w' b t vs := by
  unfold Bl; rw [g.below.block b h.lt]; exact h
theorem Bl.new (w : World) (t : Nat) (vs : Array Value) : Bl (w.alloc (.cells vs t)) w.heap.size t vs := heap_alloc_new w _
theorem Bl.alloc {w : World} {b t : Nat} {vs : Array Value} (h : Bl w b t vs) (o : Obj) : Bl (w.alloc o) b t vs := by
  unfold Bl; rw [Below.heap_alloc w o b h.lt]; exact h
theorem Bl.drewN {w : World} {b t : Nat} {vs : Array Value} (h : Bl w b t vs) (n : Nat) : Bl (w.drewN n) b t vs := h
theorem Bl.two {w : World} {b t : Nat} {x y : Value} (h : Bl w b t #[x, y]) : w.cell? ⟨b, 0, none⟩ = some x ∧ w.cell? ⟨b, 1, none⟩ = some y ∧ w.frozen? ⟨b, 0, none⟩ = false ∧ w.frozen? ⟨b, 1, none⟩ = false :=
  ⟨h.cell rfl, h.cell rfl, h.fro 0, h.fro 1⟩
theorem Bl.four {w : World} {b t : Nat} {x y z v : Value} (h : Bl w b t #[x, y, z, v]) : (w.cell? ⟨b, 0, none⟩ = some x ∧ w.cell? ⟨b, 1, none⟩ = some y ∧ w.cell? ⟨b, 2, none⟩ = some z ∧ w.cell? ⟨b, 3, none⟩ = some v) ∧ w.frozen? ⟨b, 0, none⟩ = false ∧ w.frozen? ⟨b, 1, none⟩ = false ∧ w.frozen? ⟨b, 2, none⟩ = false ∧ w.frozen? ⟨b, 3, none⟩ = false :=
  ⟨⟨h.cell rfl, h.cell rfl, h.cell rfl, h.cell rfl⟩, h.fro 0, h.fro 1, h.fro 2, h.fro 3⟩

/-! ### times, square, divided -/
def tRe (P Q U W : Nat) : Nat := fo .sub (fo .mul P U) (fo .mul Q W)
def tIm (P Q U W : Nat) : Nat := fo .add (fo .mul P W) (fo .mul Q U)
def sqF (P Q : Nat) : Nat := fo .add (fo .mul P P) (fo .mul Q Q)
set_option maxRecDepth 20000 in
set_option maxHeartbeats 1000000 in
theorem times_any {p q u v P Q U W : Nat} (hp : V p P) (hq : V q Q) (hu : V u U) (hv : V v W) (w : World) :
    Calls Try.prog 41 #[.complex .f64 p q, .complex .f64 u v] w fun e w' => ∃ r s, e = .returned (.complex .f64 r s) ∧ V r (tRe P Q U W) ∧ V s (tIm P Q U W) ∧ Gr w w' := by
  go_enter Try.func41, Try.ntmps41
  go_wp2_with (first
    | (refine wpList_fl _ rfl .mul (.inr (.inr (.inl rfl))) _ _ rfl _ _ rfl rfl (by assumption) (by assumption) ?_; intro r n h')
    | (refine wpList_fl _ rfl .sub (.inr (.inl rfl)) _ _ rfl _ _ rfl rfl (by assumption) (by assumption) ?_; intro r n h')
    | (refine wpList_fl _ rfl .add (.inl rfl) _ _ rfl _ _ rfl rfl (by assumption) (by assumption) ?_; intro r n h'))
  go_ret
  exact ⟨_, _, rfl, by assumption, by assumption, (Gr.refl _).drewN _⟩
set_option maxRecDepth 20000 in
set_option maxHeartbeats 1000000 in
theorem square_any {p q P Q : Nat} (hp : V p P) (hq : V q Q) (w : World) :
    Calls Try.prog 44 #[.complex .f64 p q] w fun e w' => ∃ r, e = .returned (.float .f64 r) ∧ V r (sqF P Q) ∧ Gr w w' := by
  go_enter Try.func44, Try.ntmps44
  go_wp2_with (first
    | (refine wpList_fl _ rfl .mul (.inr (.inr (.inl rfl))) _ _ rfl _ _ rfl rfl (by assumption) (by assumption) ?_; intro r n h')
    | (refine wpList_fl _ rfl .add (.inl rfl) _ _ rfl _ _ rfl rfl (by assumption) (by assumption) ?_; intro r n h'))
  go_ret
  exact ⟨_, rfl, by assumption, (Gr.refl _).drewN _⟩
set_option maxRecDepth 20000 in
set_option maxHeartbeats 1000000 in
theorem divided_any {p q d P Q D : Nat} (hp : V p P) (hq : V q Q) (hd : V d D) (w : World) :
    Calls Try.prog 63 #[.complex .f64 p q, .float .f64 d] w fun e w' => ∃ r s, e = .returned (.complex .f64 r s) ∧ V r (fo .quo P D) ∧ V s (fo .quo Q D) ∧ Gr w w' := by
  go_enter Try.func63, Try.ntmps63
  go_wp2_with (refine wpList_fl _ rfl .quo (.inr (.inr (.inr rfl))) _ _ rfl _ _ rfl rfl (by assumption) (by assumption) ?_; intro r n h')
  go_ret
  exact ⟨_, _, rfl, by assumption, by assumption, (Gr.refl _).drewN _⟩

/-! ### The reference's -/
set_option maxRecDepth 20000 in
set_option maxHeartbeats 1000000 in
theorem rplus_any {p q u v P Q U W : Nat} (hp : V p P) (hq : V q Q) (hu : V u U) (hv : V v W) (w : World) :
    Calls Try.prog 42 #[.agg #[.float .f64 p, .float .f64 q], .agg #[.float .f64 u, .float .f64 v]] w fun e w' => ∃ r s, e = .returned (.agg #[.float .f64 r, .float .f64 s]) ∧ V r (fo .add P U) ∧ V s (fo .add Q W) ∧ Gr w w' := by
  have sf := run_store_f
  go_enter Try.func42, Try.ntmps42
  go_wp2_with (first
    | (refine wpList_fl _ rfl .add (.inl rfl) _ _ rfl _ _ rfl rfl (by assumption) (by assumption) ?_; intro r n h'))
  rename_i r5 n5 h5
  refine bodyPost_ret (v := .agg #[.float .f64 r5, .float .f64 r]) (by simp [results, Try.results42, go_sem]) rfl ⟨_, _, rfl, by assumption, by assumption, (by repeat (first | exact Gr.refl _ | refine Gr.setCell ?_ (by simp only []; omega) _ | refine Gr.drewN ?_ _ | refine Gr.alloc ?_ _))⟩
set_option maxRecDepth 20000 in
set_option maxHeartbeats 1000000 in
theorem rminus_any {p q u v P Q U W : Nat} (hp : V p P) (hq : V q Q) (hu : V u U) (hv : V v W) (w : World) :
    Calls Try.prog 52 #[.agg #[.float .f64 p, .float .f64 q], .agg #[.float .f64 u, .float .f64 v]] w fun e w' => ∃ r s, e = .returned (.agg #[.float .f64 r, .float .f64 s]) ∧ V r (fo .sub P U) ∧ V s (fo .sub Q W) ∧ Gr w w' := by
  have sf := run_store_f
  go_enter Try.func52, Try.ntmps52
  go_wp2_with (first
    | (refine wpList_fl _ rfl .sub (.inr (.inl rfl)) _ _ rfl _ _ rfl rfl (by assumption) (by assumption) ?_; intro r n h'))
  rename_i r5 n5 h5
  refine bodyPost_ret (v := .agg #[.float .f64 r5, .float .f64 r]) (by simp [results, Try.results52, go_sem]) rfl ⟨_, _, rfl, by assumption, by assumption, (by repeat (first | exact Gr.refl _ | refine Gr.setCell ?_ (by simp only []; omega) _ | refine Gr.drewN ?_ _ | refine Gr.alloc ?_ _))⟩
set_option maxRecDepth 20000 in
set_option maxHeartbeats 1000000 in
theorem rtimes_any {p q u v P Q U W : Nat} (hp : V p P) (hq : V q Q) (hu : V u U) (hv : V v W) (w : World) :
    Calls Try.prog 43 #[.agg #[.float .f64 p, .float .f64 q], .agg #[.float .f64 u, .float .f64 v]] w fun e w' => ∃ r s, e = .returned (.agg #[.float .f64 r, .float .f64 s]) ∧ V r (tRe P Q U W) ∧ V s (tIm P Q U W) ∧ Gr w w' := by
  have sf := run_store_f
  go_enter Try.func43, Try.ntmps43
  go_wp2_with (first
    | (refine wpList_fl _ rfl .mul (.inr (.inr (.inl rfl))) _ _ rfl _ _ rfl rfl (by assumption) (by assumption) ?_; intro r n h')
    | (refine wpList_fl _ rfl .sub (.inr (.inl rfl)) _ _ rfl _ _ rfl rfl (by assumption) (by assumption) ?_; intro r n h')
    | (refine wpList_fl _ rfl .add (.inl rfl) _ _ rfl _ _ rfl rfl (by assumption) (by assumption) ?_; intro r n h'))
  rename_i r1 n1 h1 r2 n2 h2 r3 n3 h3 r4 n4 h4 r5 n5 h5
  refine bodyPost_ret (v := .agg #[.float .f64 r5, .float .f64 r]) (by simp [results, Try.results43, go_sem]) rfl ⟨_, _, rfl, by assumption, by assumption, (by repeat (first | exact Gr.refl _ | refine Gr.setCell ?_ (by simp only []; omega) _ | refine Gr.drewN ?_ _ | refine Gr.alloc ?_ _))⟩
set_option maxRecDepth 20000 in
set_option maxHeartbeats 1000000 in
theorem rsquare_any {p q P Q : Nat} (hp : V p P) (hq : V q Q) (w : World) :
    Calls Try.prog 48 #[.agg #[.float .f64 p, .float .f64 q]] w fun e w' => ∃ r, e = .returned (.float .f64 r) ∧ V r (sqF P Q) ∧ Gr w w' := by
  have sf := run_store_f
  go_enter Try.func48, Try.ntmps48
  go_wp2_with (first
    | (refine wpList_fl _ rfl .mul (.inr (.inr (.inl rfl))) _ _ rfl _ _ rfl rfl (by assumption) (by assumption) ?_; intro r n h')
    | (refine wpList_fl _ rfl .add (.inl rfl) _ _ rfl _ _ rfl rfl (by assumption) (by assumption) ?_; intro r n h'))
  go_ret
  exact ⟨_, rfl, by assumption, (by repeat (first | exact Gr.refl _ | refine Gr.setCell ?_ (by simp only []; omega) _ | refine Gr.drewN ?_ _ | refine Gr.alloc ?_ _))⟩
/-- a by b. -/
def byRe (P Q U W : Nat) : Nat := fo .quo (fo .add (fo .mul P U) (fo .mul Q W)) (sqF U W)
def byIm (P Q U W : Nat) : Nat := fo .quo (fo .sub (fo .mul Q U) (fo .mul P W)) (sqF U W)
set_option maxRecDepth 20000 in
set_option maxHeartbeats 1000000 in
theorem by_any {p q u v P Q U W : Nat} (hp : V p P) (hq : V q Q) (hu : V u U) (hv : V v W) (w : World) :
    Calls Try.prog 47 #[.complex .f64 p q, .complex .f64 u v] w fun e w' => ∃ r s, e = .returned (.complex .f64 r s) ∧ V r (byRe P Q U W) ∧ V s (byIm P Q U W) ∧ Gr w w' := by
  go_enter Try.func47, Try.ntmps47
  go_wp2_with (first
    | (refine wpList_fl _ rfl .mul (.inr (.inr (.inl rfl))) _ _ rfl _ _ rfl rfl (by assumption) (by assumption) ?_; intro r n h')
    | (refine wpList_fl _ rfl .sub (.inr (.inl rfl)) _ _ rfl _ _ rfl rfl (by assumption) (by assumption) ?_; intro r n h')
    | (refine wpList_fl _ rfl .add (.inl rfl) _ _ rfl _ _ rfl rfl (by assumption) (by assumption) ?_; intro r n h')
    | (go_at_call 44; refine (square_any hu hv _).mono ?_; rintro e w1 ⟨d, rfl, hd, g1⟩)
    | (go_at_call 63; refine (divided_any (by assumption) (by assumption) (by assumption) _).mono ?_; rintro e w2 ⟨r1, r2, rfl, k1, k2, g2⟩))
  go_ret
  exact ⟨_, _, rfl, by assumption, by assumption, (((Gr.refl _).drewN _).trans g1).trans g2⟩
set_option maxRecDepth 20000 in
set_option maxHeartbeats 1000000 in
theorem rby_any {p q u v P Q U W : Nat} (hp : V p P) (hq : V q Q) (hu : V u U) (hv : V v W) (w : World) :
    Calls Try.prog 51 #[.agg #[.float .f64 p, .float .f64 q], .agg #[.float .f64 u, .float .f64 v]] w fun e w' => ∃ r s, e = .returned (.agg #[.float .f64 r, .float .f64 s]) ∧ V r (byRe P Q U W) ∧ V s (byIm P Q U W) ∧ Gr w w' := by
  have sf := run_store_f
  have kA := ((Bl.new w 33 #[.float .f64 p, .float .f64 q]).alloc (.cells #[.float .f64 u, .float .f64 v] 33)).alloc (.cells #[.float .f64 0, .float .f64 0] 33)
  have kB := (Bl.new (w.alloc (.cells #[.float .f64 p, .float .f64 q] 33)) 33 #[.float .f64 u, .float .f64 v]).alloc (.cells #[.float .f64 0, .float .f64 0] 33)
  have kR := Bl.new ((w.alloc (.cells #[.float .f64 p, .float .f64 q] 33)).alloc (.cells #[.float .f64 u, .float .f64 v] 33)) 33 #[.float .f64 0, .float .f64 0]
  have g : Gr w (((w.alloc (.cells #[.float .f64 p, .float .f64 q] 33)).alloc (.cells #[.float .f64 u, .float .f64 v] 33)).alloc (.cells #[.float .f64 0, .float .f64 0] 33)) := (((Gr.refl w).alloc _).alloc _).alloc _
  have e2 : (w.alloc (.cells #[.float .f64 p, .float .f64 q] 33)).heap.size = w.heap.size + 1 := by simp
  have e3 : ((w.alloc (.cells #[.float .f64 p, .float .f64 q] 33)).alloc (.cells #[.float .f64 u, .float .f64 v] 33)).heap.size = w.heap.size + 1 + 1 := by simp
  rw [e2] at kB
  rw [e3] at kR
  clear e2 e3
  go_enter Try.func51, Try.ntmps51
  go_wp2_with fail
  refine (rsquare_any hu hv _).mono ?_
  rintro e w1 ⟨d, rfl, hd, g1⟩
  replace kA := (kA.gr g1).two
  replace kB := (kB.gr g1).two
  replace kR := (kR.gr g1).two
  replace g := g.trans g1
  obtain ⟨a0, a1, _, _⟩ := kA
  obtain ⟨b0, b1, _, _⟩ := kB
  obtain ⟨c0, c1, c2, c3⟩ := kR
  clear g1
  dsimp only
  go_wp2_with (first
    | (refine wpList_fl _ rfl .mul (.inr (.inr (.inl rfl))) _ _ rfl _ _ rfl rfl (by assumption) (by assumption) ?_; intro r n h')
    | (refine wpList_fl _ rfl .sub (.inr (.inl rfl)) _ _ rfl _ _ rfl rfl (by assumption) (by assumption) ?_; intro r n h')
    | (refine wpList_fl _ rfl .add (.inl rfl) _ _ rfl _ _ rfl rfl (by assumption) (by assumption) ?_; intro r n h')
    | (refine wpList_fl _ rfl .quo (.inr (.inr (.inr rfl))) _ _ rfl _ _ rfl rfl (by assumption) (by assumption) ?_; intro r n h'))
  rename_i r7 n7 h7
  refine bodyPost_ret (v := .agg #[.float .f64 r7, .float .f64 r]) (by simp [results, Try.results51, go_sem, c0, c1]) rfl ⟨_, _, rfl, by assumption, by assumption, ?_⟩
  exact ((g.drewN _).setCell (by simp only []; omega) _).setCell (by simp only []; omega) _
end Go.Proofs.Ytmjfphidcnjklaa
