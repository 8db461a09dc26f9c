/- Cut, Take, Ready on both. -/
import Derived.Test.YtaapdkjmlplhgaaCw
import Derived.Test.YtaapdkjmlplhgaaRt
set_option linter.unusedSimpArgs false
set_option linter.unusedVariables false
namespace Go.Proofs.Ytaapdkjmlplhgaa
open Go.RowKit Go.Sort Go.Shelf

/-- Both stand beside one another. -/
def Both (B d h pb mb most r : Nat) (w : World) : Prop := ∃ v l m rv L, Pr B w d h pb mb v l m most r rv L
/-- What lies aside of both stays. -/
def Far (h mb r : Nat) (v : Value) (w w' : World) : Prop := ∀ q, q < w.heap.size → Aside h mb v q → q ≠ r → w'.heap[q]? = w.heap[q]?
theorem Far.refl (h mb r : Nat) (v : Value) (w : World) : Far h mb r v w w := fun _ _ _ _ => rfl
theorem Far.gr {h mb r : Nat} {v : Value} {w w' : World} (g : Gr w w') : Far h mb r v w w' := fun q hq _ _ => g.below.block q hq
theorem Far.d {h mb r : Nat} {v v' : Value} {w w' : World} (C : DCh h mb v v' w w') : Far h mb r v w w' := fun q hq a _ => (C.far hq a).1
theorem Far.c {h mb r : Nat} {v rv' : Value} {w a b : World} (F : Far h mb r v w a) (hs : w.heap.size ≤ a.heap.size) (C : RCh r rv' a b) : Far h mb r v w b := fun q hq A n => (C.chg.block q (by omega) n).trans (F q hq A n)
theorem Far.g {h mb r : Nat} {v : Value} {w a b : World} (F : Far h mb r v w a) (hs : w.heap.size ≤ a.heap.size) (g : Gr a b) : Far h mb r v w b := fun q hq A n => (g.below.block q (by omega)).trans (F q hq A n)
theorem Far.bk {h mb r : Nat} {v : Value} {w w' : World} (F : Far h mb r v w w') {q t : Nat} {cs : List Value} (k : Bk w q t cs) (A : Aside h mb v q) (n : q ≠ r) : Bk w' q t cs := k.same (F q k.lt A n)
theorem filt_len (P : Du → Bool) : ∀ L : List Du, (L.filter P).length + (L.filter (fun y => !P y)).length = L.length
  | [] => rfl
  | y :: t => by
    have := filt_len P t
    cases h : P y <;> simp [h] <;> omega
section
variable {B : Nat} {w w1 : World} {d h pb mb : Nat} {v v' : Value} {l l' : List Du} {m m' : Pf} {most r : Nat} {rv : Value} {L : List Du}
theorem sort_filter {P : Du → Bool} (S : SortOf L l) (M : ∀ y, y ∈ l' ↔ y ∈ l ∧ P y = false) : SortOf (L.filter (fun y => !P y)) l' :=
  ⟨S.asc.filter _, fun y => by rw [List.mem_filter, M y, S.mem y]; simp⟩
/-- The Dues have lost what P tells; the reference's Cut behind it. -/
theorem cut_both (P : Pr B w d h pb mb v l m most r rv L) (C : DCh h mb v v' w w1) (D1 : Ds B w1 d h pb mb v' l' m' most) (o f : Int) (ba bf : Bool) (M : ∀ y, y ∈ l' ↔ y ∈ l ∧ hit o ba f bf y = false) :
    Calls Try.prog 23 #[.pointer (some ⟨r, 0, none⟩), .int .u32 o, .bool ba, .int .u32 f, .bool bf] w1 fun e w2 => e = .returned (.int .i64 ((l.length : Int) - (l'.length : Int))) ∧ Keeps B w1 w2 ∧ Far h mb r v w w2 ∧ Both B d h pb mb most r w2 := by
  have hLl := P.so.len P.ds.pd
  have hmo := P.ds.mo
  obtain ⟨R1, A1⟩ := C.rf P
  refine (rcut_any R1 o f ba bf (by omega)).mono ?_
  rintro e w2 ⟨rfl, rv', R2, C2⟩
  obtain ⟨D2, A2⟩ := C2.ds D1 R1
  have S2 : SortOf (cutL o ba f bf L) l' := sort_filter P.so M
  have h2 := S2.len D1.pd
  exact ⟨by rw [h2, hLl], ⟨C2.bel R1 D1.size, fun b t cs k h1 h2 h3 => C2.kept R1 k h3⟩, (Far.d C).c C.chg.size C2, v', l', m', rv', _, D2, R2, S2, A2⟩
theorem DCh.kp (C : DCh h mb v v' w w1) (D : Ds B w d h pb mb v l m most) : Keeps B w w1 := ⟨C.bel D D.size, fun b t cs k h1 h2 _ => C.kept D k h1 h2⟩
theorem cuts_any (P : Pr B w d h pb mb v l m most r rv L) (k : Int × Int) (hk : okK k) :
    Calls Try.prog 22 #[.pointer (some ⟨d, 0, none⟩), .int .u32 k.1, .int .u32 k.2] w fun e w1 => ∃ q, e = .returned (.bool q) ∧ Keeps B w w1 ∧ Far h mb r v w w1 ∧
      Calls Try.prog 23 #[.pointer (some ⟨r, 0, none⟩), .int .u32 k.1, .bool false, .int .u32 k.2, .bool false] w1 fun e w2 => ∃ c : Int, e = .returned (.int .i64 c) ∧ q = decide (c = 1) ∧ Keeps B w1 w2 ∧ Far h mb r v w w2 ∧ Both B d h pb mb most r w2 := by
  have hh : ∀ y : Du, hit k.1 false k.2 false y = decide (y.2 = k) := fun y => by
    obtain ⟨ya, yo, yf⟩ := y
    obtain ⟨ko, kf⟩ := k
    simp [hit, Prod.ext_iff]
  cases hm : m k with
  | none =>
    refine (cut_none P.ds k hk hm).mono ?_
    rintro e w1 ⟨rfl, hw⟩
    cases hw
    refine ⟨false, rfl, Keeps.refl _ _, Far.refl _ _ _ _ _, ?_⟩
    refine (cut_both P (DCh.refl h mb v w) P.ds k.1 k.2 false false (fun y => ?_)).mono ?_
    · rw [hh y]
      constructor
      · intro hy
        refine ⟨hy, decide_eq_false fun e => ?_⟩
        obtain ⟨j, hj⟩ := (P.ds.pd.has k).2 ⟨y, hy, e⟩
        rw [hm] at hj
        cases hj
      · exact fun h => h.1
    · rintro e w2 ⟨rfl, k2, k3, b2⟩
      exact ⟨_, rfl, by simp, k2, k3, b2⟩
  | some j =>
    refine (cut_some P.ds k hk hm).mono ?_
    rintro e w1 ⟨rfl, v', l', m', D1, M1, L1, C1⟩
    refine ⟨true, rfl, C1.kp P.ds, Far.d C1, ?_⟩
    refine (cut_both P C1 D1 k.1 k.2 false false (fun y => ?_)).mono ?_
    · rw [hh y, M1 y, decide_eq_false_iff_not]
    · rintro e w2 ⟨rfl, k2, k3, b2⟩
      exact ⟨_, rfl, by rw [show (l.length : Int) - (l'.length : Int) = 1 by omega]; rfl, k2, k3, b2⟩
theorem cut_count {P : Du → Bool} (S : SortOf L l) (Q : PD l m) (Q' : PD l' m') (M : ∀ y, y ∈ l' ↔ y ∈ l ∧ P y = false) : (l.length : Int) - (l'.length : Int) = ((L.filter P).length : Nat) := by
  have h1 := S.len Q
  have h2 := (sort_filter S M).len Q'
  have h3 := filt_len P L
  omega
theorem cutObs_any (P : Pr B w d h pb mb v l m most r rv L) (x : Int) :
    Calls Try.prog 24 #[.pointer (some ⟨d, 0, none⟩), .int .u32 x] w fun e w1 => ∃ c : Int, e = .returned (.int .i64 c) ∧ Keeps B w w1 ∧ Far h mb r v w w1 ∧
      Calls Try.prog 23 #[.pointer (some ⟨r, 0, none⟩), .int .u32 x, .bool false, .int .u32 0, .bool true] w1 fun e w2 => e = .returned (.int .i64 c) ∧ Keeps B w1 w2 ∧ Far h mb r v w w2 ∧ Both B d h pb mb most r w2 := by
  refine (cutOb_some P.ds P.so x).mono ?_
  rintro e w1 ⟨rfl, v', l', m', D1, M1, C1⟩
  refine ⟨_, rfl, C1.kp P.ds, Far.d C1, ?_⟩
  rw [← cut_count P.so P.ds.pd D1.pd M1]
  exact cut_both P C1 D1 x 0 false true (fun y => by rw [M1 y]; simp [hit])
theorem cutFes_any (P : Pr B w d h pb mb v l m most r rv L) (x : Int) :
    Calls Try.prog 25 #[.pointer (some ⟨d, 0, none⟩), .int .u32 x] w fun e w1 => ∃ c : Int, e = .returned (.int .i64 c) ∧ Keeps B w w1 ∧ Far h mb r v w w1 ∧
      Calls Try.prog 23 #[.pointer (some ⟨r, 0, none⟩), .int .u32 0, .bool true, .int .u32 x, .bool false] w1 fun e w2 => e = .returned (.int .i64 c) ∧ Keeps B w1 w2 ∧ Far h mb r v w w2 ∧ Both B d h pb mb most r w2 := by
  refine (cutFe_some P.ds P.so x).mono ?_
  rintro e w1 ⟨rfl, v', l', m', D1, M1, C1⟩
  refine ⟨_, rfl, C1.kp P.ds, Far.d C1, ?_⟩
  rw [← cut_count P.so P.ds.pd D1.pd M1]
  exact cut_both P C1 D1 0 x true false (fun y => by rw [M1 y]; simp [hit])
theorem sets_both (P : Pr B w d h pb mb v l m most r rv L) (x : Du) (hx : okD x) :
    Calls Try.prog 12 #[.pointer (some ⟨d, 0, none⟩), dV x] w fun e w1 => ∃ c, e = .returned (.int .i64 c) ∧ Keeps B w w1 ∧ Far h mb r v w w1 ∧
      Calls Try.prog 13 #[.pointer (some ⟨r, 0, none⟩), dV x] w1 fun e w2 => e = .returned (.int .i64 c) ∧ Keeps B w1 w2 ∧ Far h mb r v w w2 ∧ Both B d h pb mb most r w2 := by
  have hLl := P.so.len P.ds.pd
  have hmo := P.ds.mo
  cases hm : m x.2 with
  | some j =>
    refine (set_there P.ds x hx hm).mono ?_
    rintro e w1 ⟨rfl, g1⟩
    have P1 := P.gr g1
    refine ⟨140, rfl, Keeps.gr g1 P.ds.size, Far.gr g1, ?_⟩
    obtain ⟨y, hy, e⟩ := (P.ds.pd.has x.2).1 ⟨j, hm⟩
    refine (rset_there P1.rf x ⟨y, (P.so.mem y).2 hy, e⟩ (by omega)).mono ?_
    rintro e w2 ⟨rfl, g2⟩
    exact ⟨rfl, Keeps.gr g2 P1.ds.size, Far.gr (g1.trans g2), v, l, m, rv, L, P1.gr g2⟩
  | none =>
    have hno : ∀ y ∈ l, y.2 ≠ x.2 := fun y hy e => by
      obtain ⟨j, hj⟩ := (P.ds.pd.has x.2).2 ⟨y, hy, e⟩
      rw [hm] at hj
      cases hj
    by_cases hf : l.length = most
    · refine (set_full P.ds x hx hm hf).mono ?_
      rintro e w1 ⟨rfl, g1⟩
      have P1 := P.gr g1
      refine ⟨5, rfl, Keeps.gr g1 P.ds.size, Far.gr g1, ?_⟩
      refine (rset_full P1.rf x (fun y hy => hno y ((P.so.mem y).1 hy)) (by omega) (by omega)).mono ?_
      rintro e w2 ⟨rfl, g2⟩
      exact ⟨rfl, Keeps.gr g2 P1.ds.size, Far.gr (g1.trans g2), v, l, m, rv, L, P1.gr g2⟩
    · refine (set_ok P.ds x hx hm (by omega)).mono ?_
      rintro e w1 ⟨rfl, v', l', m', D1, M1, L1, C1⟩
      obtain ⟨R1, A1⟩ := C1.rf P
      refine ⟨0, rfl, ⟨C1.bel P.ds P.ds.size, fun b t cs k h1 h2 h3 => C1.kept P.ds k h1 h2⟩, Far.d C1, ?_⟩
      refine (rset_ok R1 x (fun y hy => hno y ((P.so.mem y).1 hy)) (by omega) (by omega)).mono ?_
      rintro e w2 ⟨rfl, rv', R2, C2⟩
      obtain ⟨D2, A2⟩ := C2.ds D1 R1
      refine ⟨rfl, ⟨C2.bel R1 D1.size, fun b t cs k h1 h2 h3 => C2.kept R1 k h3⟩, (Far.d C1).c C1.chg.size C2, v', l', m', rv', insL x L, ⟨D2, R2, ⟨insL_asc x L P.so.asc (fun y hy e => ?_), fun y => ?_⟩, A2⟩⟩
      · exact hno y ((P.so.mem y).1 hy) (by rw [e])
      · rw [insL_mem, P.so.mem y, M1 y]
theorem head_same (P : Pr B w d h pb mb v l m most r rv L) : nth l 0 = nth L 0 := by
  have hLl := P.so.len P.ds.pd
  by_cases h0 : 0 < L.length
  · exact (head_is P.ds.pd (n := 0) P.so h0).2
  · have h1 : L = [] := List.eq_nil_of_length_eq_zero (by omega)
    have h2 : l = [] := List.eq_nil_of_length_eq_zero (by omega)
    rw [h1, h2]
theorem rdy_same (P : Pr B w d h pb mb v l m most r rv L) (now : Int) : rdy l now = rdy L now := by
  unfold rdy
  rw [head_same P, P.so.len P.ds.pd]
theorem takes_any (P : Pr B w d h pb mb v l m most r rv L) (now : Int) :
    Calls Try.prog 14 #[.pointer (some ⟨d, 0, none⟩), .int .u32 now] w fun e w1 => ∃ x q, e = .returned (.tuple #[dV x, .bool q]) ∧ Keeps B w w1 ∧ Far h mb r v w w1 ∧
      ∀ W, Gr w1 W → Calls Try.prog 30 #[.pointer (some ⟨r, 0, none⟩), .int .u32 now] W fun e w2 => e = .returned (.tuple #[dV x, .bool q]) ∧ Keeps B W w2 ∧ Far h mb r v w w2 ∧ (∀ q, q < W.heap.size → q ≠ r → w2.heap[q]? = W.heap[q]?) ∧ Both B d h pb mb most r w2 := by
  have hLl := P.so.len P.ds.pd
  have hmo := P.ds.mo
  cases hr : rdy l now with
  | false =>
    refine (take_not P.ds now hr).mono ?_
    rintro e w1 ⟨rfl, g1⟩
    refine ⟨_, _, rfl, Keeps.gr g1 P.ds.size, Far.gr g1, fun W gW => ?_⟩
    have P1 := (P.gr g1).gr gW
    refine (rtake_not P1.rf now (by rw [← rdy_same P]; exact hr)).mono ?_
    rintro e w2 ⟨rfl, g2⟩
    exact ⟨rfl, Keeps.gr g2 P1.ds.size, Far.gr ((g1.trans gW).trans g2), fun q hq _ => g2.below.block q hq, _, _, _, _, _, P1.gr g2⟩
  | true =>
    refine (take_yes P.ds now hr).mono ?_
    rintro e w1 ⟨rfl, v', l', m', D1, M1, L1, C1⟩
    refine ⟨_, _, rfl, C1.kp P.ds, Far.d C1, fun W gW => ?_⟩
    obtain ⟨R1, A1⟩ := C1.rf P
    refine (rtake_yes (R1.gr gW) now (by rw [← rdy_same P]; exact hr) (by omega)).mono ?_
    rintro e w2 ⟨rfl, rv', R2, C2⟩
    obtain ⟨D2, A2⟩ := C2.ds (D1.gr gW) (R1.gr gW)
    refine ⟨by rw [head_same P], ⟨C2.bel (R1.gr gW) (D1.gr gW).size, fun b t cs k h1 h2 h3 => C2.kept (R1.gr gW) k h3⟩, ((Far.d C1).g C1.chg.size gW).c (Nat.le_trans C1.chg.size gW.size) C2, fun q hq hn => C2.chg.block q hq hn, v', l', m', rv', _, D2, R2, ?_, A2⟩
    exact sort_next (n := 0) P.ds.pd P.so (by omega) (fun y => by rw [← head_same P]; exact M1 y)
theorem readys_any (P : Pr B w d h pb mb v l m most r rv L) (now : Int) :
    Calls Try.prog 29 #[.pointer (some ⟨r, 0, none⟩), .int .u32 now] w fun e w' => e = .returned (.bool (rdy l now)) ∧ w' = w := by
  rw [rdy_same P]
  exact rready_any P.rf now
theorem firsts_any (P : Pr B w d h pb mb v l m most r rv L) :
    Calls Try.prog 27 #[.pointer (some ⟨r, 0, none⟩)] w fun e w' => e = .returned (.tuple #[dV (nth l 0), .bool (decide (0 < l.length))]) ∧ Gr w w' := by
  rw [head_same P, ← P.so.len P.ds.pd]
  exact rfirst_any P.rf
end
end Go.Proofs.Ytaapdkjmlplhgaa
