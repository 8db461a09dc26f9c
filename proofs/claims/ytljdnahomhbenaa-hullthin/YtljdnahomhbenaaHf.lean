/- The program's half: the way through points that stand in order, without those at which it would not turn left. -/
import Derived.Test.YtljdnahomhbenaaRv
import Derived.WalkSmall
namespace Go.Proofs.Ytljdnahomhbenaa
section
open Go.RowKit Go.Sort Go.Lib

abbrev in2 (p : Int × Int) : Prop := in32 p.1 ∧ in32 p.2
def crT (a b c : Int × Int) : Int := turnI a.1 a.2 b.1 b.2 c.1 c.2
theorem turn_cr (a b c : Int × Int) : (crT a b c ≤ 0 ↔ cr a b c ≤ 0) ∧ (crT a b c < 0 ↔ cr a b c < 0) ∧ (crT a b c = 0 ↔ cr a b c = 0) := by
  unfold crT turnI cmpI cr
  generalize (b.1 - a.1) * (c.2 - a.2) = x
  generalize (b.2 - a.2) * (c.1 - a.1) = y
  repeat' split
  all_goals omega
theorem pop_one (q c : Int × Int) : popS q [c] = [c] := rfl

def lenV : Value → Nat
  | .slice _ n _ => n
  | _ => 0
theorem own_any {w : World} {base n : Nat} {sv : Value} {xs : List Value} (h : w.ownsRow base 28 2 sv n xs) : ∃ so c, sv = .slice so n c := by
  rcases h.2 with ⟨rfl, hn⟩ | ⟨g, cap, cur, rfl, _⟩
  · exact ⟨none, 0, by rw [hn]⟩
  · exact ⟨_, cap, rfl⟩
theorem own_shape2 {w : World} {base n : Nat} {sv : Value} {xs : List Value} (h : w.ownsRow base 28 2 sv n xs) (hn : 0 < n) : ∃ g cap, sv = .slice (some ⟨g, 0, none⟩) n cap ∧ n ≤ cap ∧ base ≤ g := by
  obtain ⟨m, rfl⟩ : ∃ m, n = m + 1 := ⟨n - 1, by omega⟩
  exact own2_shape h
theorem pop_le (q : Int × Int) (S : List (Int × Int)) (h : ¬ 1 < S.length) : popS q S = S := by
  cases S with
  | nil => rfl
  | cons b r => cases r with
    | nil => rfl
    | cons a r => simp at h
theorem half_len (l : List (Int × Int)) : (halfR l).length ≤ l.length := by
  have : ∀ (l s : List (Int × Int)), (l.foldl pushS s).length ≤ s.length + l.length := fun l => by
    induction l with
    | nil => intro s; simp
    | cons q l ih =>
      intro s
      have := ih (pushS s q)
      have h2 := (pop_suffix q s).length_le
      simp only [List.foldl_cons, List.length_cons, pushS] at *
      omega
  simpa [halfR] using this l []
theorem half_sub (l : List (Int × Int)) : ∀ c ∈ halfR l, c ∈ l := by
  have : ∀ (l s : List (Int × Int)), ∀ c ∈ l.foldl pushS s, c ∈ s ∨ c ∈ l := fun l => by
    induction l with
    | nil => intro s c hc; exact Or.inl hc
    | cons q l ih =>
      intro s c hc
      rcases ih (pushS s q) c hc with h | h
      · unfold pushS at h
        rcases List.mem_cons.mp h with h | h
        · exact Or.inr (by simp [h])
        · exact Or.inl ((pop_suffix q s).subset h)
      · exact Or.inr (by simp [h])
  intro c hc
  rcases this l [] c hc with h | h
  · cases h
  · exact h

set_option maxRecDepth 20000 in
set_option maxHeartbeats 4000000 in
theorem half_any (vo : Option Addr) (cv : Nat) (l : List (Int × Int)) (w : World) (hl : l.length ≤ 17592186043904) (h32 : ∀ p ∈ l, in2 p) (hP : Pts w vo l) :
    Calls Try.prog 59 #[.slice vo l.length cv] w fun e w' => ∃ sv, e = .returned sv ∧ w'.ownsRow w.heap.size 28 2 sv (halfR l).length (flat (halfR l).reverse) ∧ Below w.heap.size w w' := by
  obtain ⟨i0, hi, hz0, hz1, hz2⟩ := info_parts Try.info28
  have HP : Hid (Pts w vo l) := hP
  have H32 : Hid (∀ p ∈ l, in2 p) := h32
  clear hP h32
  go_enter Try.func59, Try.ntmps59
  go_wp2
  go_loopw [3, 8] (fun s i wr => ∃ (k : Nat), k ≤ l.length ∧ i = .int .i64 k ∧ wr.ownsRow w.heap.size 28 2 s (halfR (l.take k)).length (flat (halfR (l.take k)).reverse) ∧ Below w.heap.size w wr) (fun _ i _ => l.length - (intOf i).toNat)
  case atStart => exact ⟨0, by omega, rfl, World.ownsRow_nil _ _ _ _, Below.refl _ _⟩
  case round =>
    obtain ⟨k, hk, rfl, hown, hb⟩ := hrel
    by_cases hlt : k < l.length
    · obtain ⟨b, off, rfl, p0, p1⟩ := HP.out k hlt
      replace p0 := below_cell p0 hb
      replace p1 := below_cell p1 hb
      have HT : Hid (halfR (l.take (k + 1)) = pushS (halfR (l.take k)) (l.getD k (0, 0))) := by
        unfold Hid
        have e : l.getD k (0, 0) = l[k] := by simp [List.getD, hlt]
        rw [e, ← List.take_append_getElem hlt]
        simp only [halfR, List.foldl_append, List.foldl_cons, List.foldl_nil]
      have hq : Hid (in2 (l.getD k (0, 0))) := by
        have e : l.getD k (0, 0) = l[k] := by simp [List.getD, hlt]
        unfold Hid
        rw [e]; exact H32.out _ (List.getElem_mem hlt)
      have hS : Hid (∀ c ∈ halfR (l.take k), in2 c) := fun c hc => H32.out c (List.mem_of_mem_take (half_sub _ c hc))
      have hSn : (halfR (l.take k)).length ≤ k := by
        have := half_len (l.take k)
        rw [List.length_take] at this
        omega
      obtain ⟨q, hqe⟩ : ∃ q, q = l.getD k (0, 0) := ⟨_, rfl⟩
      rw [← hqe] at p0 p1 HT hq
      clear hqe
      generalize halfR (l.take k) = S at *
      go_upto_region 5 with fail
      have hsz := hb.size
      have hB := heap_alloc_new wr (.cells #[.int .i32 q.1, .int .i32 q.2] 28)
      have O1 := hown.alloc (.cells #[.int .i32 q.1, .int .i32 q.2] 28)
      have hb1 := hb.alloc hsz (.cells #[.int .i32 q.1, .int .i32 q.2] 28)
      clear p0 p1 hown hb
      obtain ⟨bq, hbq⟩ : ∃ bq, bq = wr.heap.size := ⟨_, rfl⟩
      rw [← hbq] at hB ⊢
      have hbq2 : w.heap.size ≤ bq := by omega
      clear hbq hsz
      generalize wr.alloc (.cells #[.int .i32 q.1, .int .i32 q.2] 28) = W1 at *
      have c0 : W1.cell? ⟨bq, 0, none⟩ = some (.int .i32 q.1) := by simp [World.cell?, hB]
      have c1 : W1.cell? ⟨bq, 1, none⟩ = some (.int .i32 q.2) := by simp [World.cell?, hB]
      clear hB
      have HL := hid0 hlt
      clear hlt
      go_loopw [3] (fun s wz => ∃ S' : List (Int × Int), Hid (popS q S' = popS q S) ∧ Hid (∀ c ∈ S', in2 c) ∧ S'.length ≤ k ∧ wz.ownsRow w.heap.size 28 2 s S'.length (flat S'.reverse) ∧ Below w.heap.size w wz ∧ wz.cell? ⟨bq, 0, none⟩ = some (.int .i32 q.1) ∧ wz.cell? ⟨bq, 1, none⟩ = some (.int .i32 q.2)) (fun s _ => lenV s)
      case atStart => exact ⟨S, rfl, hS, hSn, O1, hb1, c0, c1⟩
      case round =>
        clear O1 hb1 c0 c1 hS hSn
        obtain ⟨S', hpop, hS', hSl, O, hb, c0, c1⟩ := hrel
        by_cases h1 : 1 < S'.length
        · obtain ⟨b', a', r, rfl⟩ : ∃ b' a' r, S' = b' :: a' :: r := by
            cases S' with
            | nil => simp at h1
            | cons x S' => cases S' with
              | nil => simp at h1
              | cons y r => exact ⟨x, y, r, rfl⟩
          obtain ⟨n, hn⟩ : ∃ n, n = (b' :: a' :: r).length := ⟨_, rfl⟩
          have hn2 : 2 ≤ n := by rw [hn]; simp
          have hr : r.length = n - 2 := by rw [hn]; simp
          have er : (b' :: a' :: r).reverse = (a' :: r).reverse ++ [b'] := by simp
          have er2 : (a' :: r).reverse = r.reverse ++ [a'] := by simp
          have el2 : (a' :: r).length = n - 1 := by rw [hn]; simp
          rw [← hn] at O hSl
          obtain ⟨g, cap, rfl, hcap, hgb⟩ := own_shape2 O (by omega)
          have OP : OwnP _ w.heap.size g n cap (b' :: a' :: r).reverse := O
          obtain ⟨x0, x1, _, _⟩ := OP.at (n - 2) (by omega)
          obtain ⟨y0, y1, _, _⟩ := OP.at (n - 1) (by omega)
          have g1 : (b' :: a' :: r).reverse.getD (n - 2) (0, 0) = a' := by rw [er, er2, ← hr]; simp [List.getD]
          have g2 : (b' :: a' :: r).reverse.getD (n - 1) (0, 0) = b' := by rw [er, er2, show n - 1 = r.length + 1 by omega]; simp [List.getD]
          rw [g1] at x0 x1
          rw [g2] at y0 y1
          have T : Hid (∀ w, Calls Try.prog 63 #[pt a'.1 a'.2, pt b'.1 b'.2, pt q.1 q.2] w fun e w' => e = .returned (.int .i64 (crT a' b' q)) ∧ Gr w w') := turn_any a'.1 a'.2 b'.1 b'.2 q.1 q.2 (hS'.out a' (by simp)).1 (hS'.out a' (by simp)).2 (hS'.out b' (by simp)).1 (hS'.out b' (by simp)).2 hq.out.1 hq.out.2
          have hpop' : Hid (popS q (b' :: a' :: r) = if cr a' b' q ≤ 0 then popS q (a' :: r) else b' :: a' :: r) := by unfold Hid; rw [popS]
          have hT := (turn_cr a' b' q).1
          have hS2 : Hid (∀ c ∈ a' :: r, in2 c) := fun c hc => hS'.out c (by simp only [List.mem_cons] at *; exact Or.inr hc)
          have O2 : Hid (∀ W, Gr wr W → W.ownsRow w.heap.size 28 2 (.slice (some ⟨g, 0, none⟩) (n - 1) cap) (n - 1) (flat (a' :: r).reverse)) := fun W hW => by
            have := own2_gr O hW
            rw [er, flat_append, show n = n - 1 + 1 by omega] at this
            exact Go.ownsRow_pop (by rw [flat_len, List.length_reverse, el2]) this
          have z0 := cell_gr x0
          have z1 := cell_gr x1
          have z2 := cell_gr y0
          have z3 := cell_gr y1
          have z4 := cell_gr c0
          have z5 := cell_gr c1
          clear x0 x1 y0 y1 g1 g2 OP er er2
          have HN := hid0 hn
          have EL2 := hid0 el2
          clear hn hr el2
          have hd : decide ((1 : Int) < (n : Int)) = true := decide_eq_true (by omega)
          obtain ⟨t, ht⟩ : ∃ t, t = crT a' b' q := ⟨_, rfl⟩
          rw [← ht] at T hT
          clear ht
          go_upto_region 5 with fail
          refine wp_region_quiet_grown (by kernel_rfl) (by kernel_rfl) ?_
          repeat (go_big_quiet_step (first | (go_at_call 63; exact Calls.grown_of (T.out _))))
          refine wpQuiet_nil ?_
          intro _ hw'
          obtain ⟨⟨nq, osq⟩, hw''⟩ := hw'
          subst hw''
          have gq : Gr wr (grow (wr.drewN nq) osq) := ⟨nq, osq, rfl⟩
          have O3 := O2.out _ gq
          have O4 := own2_gr O gq
          have hb3 := hb.trans (gq.below.mono hb.size)
          replace z4 := z4 nq osq
          replace z5 := z5 nq osq
          clear z0 z1 z2 z3 O2 gq O hb c0 c1 T
          generalize grow (wr.drewN nq) osq = W2 at *
          by_cases ht : t ≤ 0
          · have hd5 : decide (t ≤ 0) = true := decide_eq_true ht
            have fin : Hid (popS q (a' :: r) = popS q S) := by
              unfold Hid
              rw [← hpop.out, hpop'.out, if_pos (hT.mp ht)]
            go_wp2
            go_roundw
            case rel => exact ⟨a' :: r, fin, hS2, by rw [EL2.out]; omega, by rw [EL2.out]; exact O3, hb3, z4, z5⟩
            case measure => simp [lenV]; omega
          · have hd5 : decide (t ≤ 0) = false := decide_eq_false ht
            have fin : Hid (b' :: a' :: r = popS q S) := by
              unfold Hid
              rw [← hpop.out, hpop'.out, if_neg (fun h => ht (hT.mpr h))]
            clear hpop hpop'
            have hsz := hb3.size
            go_wp2_with (at_builtin; refine wpList_append_own _ rfl (.tmp 37) (.tmp 39) 22 rfl w.heap.size 28 i0 (.agg #[.int .i32 0, .int .i32 0]) 2 8 Try.underlying22 hi hz0 hz1 hz2 rfl (by decide) _ n _ rfl (O4.alloc _) ⟨W2.heap.size, 0, none⟩ 1 1 [.int .i32 q.1, .int .i32 q.2] rfl rfl (one_cells _ _ _) (fun u hu => by simp at hu; rcases hu with rfl | rfl <;> rfl) (by unfold maxLen; omega) (by omega) (by simp; omega) ?_)
            intro sv w1 hown1 hgrow _
            have hb1 : Below w.heap.size w w1 := (hb3.alloc hsz _).grown hgrow (by simp; omega) (fun j hj => (O4.lt j hj).1)
            clear hgrow O4 hb3 z4 z5
            go_wp2
            go_roundw
            case rel =>
              refine ⟨k + 1, HL.out, by go_num, ?_, hb1⟩
              rw [HT.out, pushS, ← fin.out, List.reverse_cons, flat_one, List.length_cons, ← HN.out]
              have e : (b' :: a' :: r).reverse = r.reverse ++ [a', b'] := by simp
              rw [e]
              exact hown1
            case measure => have := HL.out; simp [intOf]; omega
        · obtain ⟨so, c, rfl⟩ := own_any O
          have fin : Hid (S' = popS q S) := by unfold Hid; rw [← hpop.out, pop_le q S' h1]
          clear hpop
          have hd : decide ((1 : Int) < (S'.length : Int)) = false := decide_eq_false (by omega)
          go_wp2
          go_region
          have O' := own2_gr O ((Gr.refl _).drew)
          have hb' := hb.trans ((Gr.refl wr).drew.below.mono hb.size)
          have z4 := below_cell c0 (Gr.refl wr).drew.below
          have z5 := below_cell c1 (Gr.refl wr).drew.below
          clear O hb c0 c1
          generalize wr.drew = W2 at *
          have hsz := hb'.size
          go_wp2_with (at_builtin; refine wpList_append_own _ rfl (.tmp 37) (.tmp 39) 22 rfl w.heap.size 28 i0 (.agg #[.int .i32 0, .int .i32 0]) 2 8 Try.underlying22 hi hz0 hz1 hz2 rfl (by decide) _ S'.length _ rfl (O'.alloc _) ⟨W2.heap.size, 0, none⟩ 1 1 [.int .i32 q.1, .int .i32 q.2] rfl rfl (one_cells _ _ _) (fun u hu => by simp at hu; rcases hu with rfl | rfl <;> rfl) (by unfold maxLen; omega) (by omega) (by simp; omega) ?_)
          intro sv w1 hown1 hgrow _
          have hb1 : Below w.heap.size w w1 := (hb'.alloc hsz _).grown hgrow (by simp; omega) (fun j hj => (O'.lt j hj).1)
          clear hgrow O' hb' z4 z5
          go_wp2
          go_roundw
          case rel =>
            refine ⟨k + 1, HL.out, by go_num, ?_, hb1⟩
            rw [HT.out, pushS, ← fin.out, List.reverse_cons, flat_one]
            exact hown1
          case measure => have := HL.out; simp [intOf]; omega
    · have hkn : k = l.length := by omega
      subst hkn
      rw [List.take_length] at hown
      go_wp2
      go_ret
      exact ⟨_, rfl, hown, hb⟩
end
end Go.Proofs.Ytljdnahomhbenaa
