/- Plain: Open of a frame is its body; a frame in which something is turned is refused. -/
import Derived.Test.YtomklacjaadcaaaDoorOpen
import Derived.Test.YtomklacjaadcaaaDoorFrame
namespace Go.Proofs.YtomklacjaadcaaaDoor

theorem num_lows : ∀ (n v : Nat), v < 256 ^ n → num (lows v n) = v
  | 0, v, h => by simp at h; subst h; rfl
  | n + 1, v, h => by
    show (UInt8.ofNat v).toNat + 256 * num (lows (v / 256) n) = v
    rw [num_lows n (v / 256) (by rw [Nat.pow_succ] at h; omega)]
    have : (UInt8.ofNat v).toNat = v % 256 := by simp
    omega
theorem lows_num : ∀ (l : List UInt8), lows (num l) l.length = l
  | [] => rfl
  | x :: r => by
    have hx := x.toNat_lt
    show UInt8.ofNat (x.toNat + 256 * num r) :: lows ((x.toNat + 256 * num r) / 256) r.length = x :: r
    have e1 : (x.toNat + 256 * num r) / 256 = num r := by omega
    have e2 : UInt8.ofNat (x.toNat + 256 * num r) = x := by
      apply UInt8.toNat_inj.1
      have : (UInt8.ofNat (x.toNat + 256 * num r)).toNat = (x.toNat + 256 * num r) % 256 := by simp
      rw [this]; omega
    rw [e1, e2, lows_num r]
theorem lows_inj {v u n : Nat} (hv : v < 256 ^ n) (hu : u < 256 ^ n) (h : lows v n = lows u n) : v = u := by
  rw [← num_lows n v hv, ← num_lows n u hu, h]
theorem parts8 (f : List UInt8) : f = f.take 2 ++ (f.drop 2).take 2 ++ (f.drop 4).take 4 ++ f.drop 8 := by
  rw [List.append_assoc, List.append_assoc]
  have e1 : (f.drop 4).take 4 ++ f.drop 8 = f.drop 4 := by
    have := List.take_append_drop 4 (f.drop 4)
    rwa [List.drop_drop] at this
  have e2 : (f.drop 2).take 2 ++ f.drop 4 = f.drop 2 := by
    have := List.take_append_drop 2 (f.drop 2)
    rwa [List.drop_drop] at this
  rw [e1, e2, List.take_append_drop]
theorem take4 (f : List UInt8) : f.take 4 = f.take 2 ++ (f.drop 2).take 2 := by
  rw [show (4 : Nat) = 2 + 2 from rfl, List.take_add]
/-- What is opened is a frame. -/
theorem open_frame {f : List UInt8} (h : openE f = 0) : f = frameP (f.drop 8) ∧ (f.drop 8).length ≤ 8184 ∧ 8 ≤ f.length := by
  unfold openE at h
  split at h
  · cases h
  · rename_i h1
    split at h
    · cases h
    · rename_i h2
      split at h
      · cases h
      · rename_i h3
        split at h
        · rename_i h4
          have h8 : 8 ≤ f.length := by omega
          have hm : markN f = 25680 := by
            by_cases e : markN f = 25680
            · exact e
            · exact absurd (.inr (.inl e)) h1
          have hn : lenN f = (f.drop 8).length := by simp; omega
          have a1 := lows_num (f.take 2)
          have a2 := lows_num ((f.drop 2).take 2)
          have a3 := lows_num ((f.drop 4).take 4)
          rw [show (f.take 2).length = 2 from by simp; omega, show num (f.take 2) = 25680 from hm] at a1
          rw [show ((f.drop 2).take 2).length = 2 from by simp; omega, show num ((f.drop 2).take 2) = (f.drop 8).length from hn] at a2
          rw [show ((f.drop 4).take 4).length = 4 from by simp; omega, h4, take4, ← a1, ← a2] at a3
          refine ⟨?_, by omega, h8⟩
          conv => lhs; rw [parts8 f, ← a1, ← a2, ← a3]
          rfl
        · cases h
theorem frame_parts (l : List UInt8) : (frameP l).take 2 = lows 25680 2 ∧ ((frameP l).drop 2).take 2 = lows l.length 2 ∧ ((frameP l).drop 4).take 4 = lows (sumP (headP l.length) l) 4 ∧ (frameP l).drop 8 = l ∧ (frameP l).take 4 = headP l.length := by
  have e : frameP l = lows 25680 2 ++ (lows l.length 2 ++ (lows (sumP (headP l.length) l) 4 ++ l)) := by unfold frameP headP; simp only [List.append_assoc]
  generalize sumP (headP l.length) l = S at *
  have h1 : (lows 25680 2).length = 2 := lows_len _ _
  have h2 : (lows l.length 2).length = 2 := lows_len _ _
  have h3 : (lows S 4).length = 4 := lows_len _ _
  have d2 : (frameP l).drop 2 = lows l.length 2 ++ (lows S 4 ++ l) := by rw [e, List.drop_append_of_le_length (by omega), List.drop_of_length_le (by omega), List.nil_append]
  have d4 : (frameP l).drop 4 = lows S 4 ++ l := by
    rw [show (4 : Nat) = 2 + 2 from rfl, ← List.drop_drop, d2, List.drop_append_of_le_length (by omega), List.drop_of_length_le (by omega), List.nil_append]
  refine ⟨?_, ?_, ?_, ?_, ?_⟩
  · rw [e, List.take_append_of_le_length (by omega), List.take_of_length_le (by omega)]
  · rw [d2, List.take_append_of_le_length (by omega), List.take_of_length_le (by omega)]
  · rw [d4, List.take_append_of_le_length (by omega), List.take_of_length_le (by omega)]
  · rw [show (8 : Nat) = 4 + 4 from rfl, ← List.drop_drop, d4, List.drop_append_of_le_length (by omega), List.drop_of_length_le (by omega), List.nil_append]
  · rw [take4, d2, e, List.take_append_of_le_length (by omega), List.take_of_length_le (by omega), List.take_append_of_le_length (by omega), List.take_of_length_le (l := lows l.length 2) (by omega)]
    rfl
/-- A frame is opened. -/
theorem frame_open {l : List UInt8} (h : l.length ≤ 8184) : openE (frameP l) = 0 := by
  obtain ⟨h1, h2, h3, h4, h5⟩ := frame_parts l
  have hl := frameP_len l
  have hm : markN (frameP l) = 25680 := by unfold markN; rw [h1]; exact num_lows 2 25680 (by decide)
  have hn : lenN (frameP l) = l.length := by unfold lenN; rw [h2]; exact num_lows 2 _ (by omega)
  unfold openE
  rw [if_neg (by omega), if_neg (by omega), if_neg (by omega), h3, h4, h5, if_pos]
  exact num_lows 4 _ (sumP_lt _ _)
/-- Bytes turned one behind the other. -/
def turn : List UInt8 → Nat → List UInt8 → List UInt8
  | f, _, [] => f
  | f, a, y :: r => turn (f.set a (f.getD a 0 ^^^ y)) (a + 1) r
theorem turn_len : ∀ (e f : List UInt8) (a : Nat), (turn f a e).length = f.length
  | [], _, _ => rfl
  | y :: r, f, a => by
    show (turn (f.set a _) (a + 1) r).length = _
    rw [turn_len r, List.length_set]
theorem turn_more : ∀ (e f : List UInt8) (a : Nat) (y : UInt8), turn f a (e ++ [y]) = (turn f a e).set (a + e.length) ((turn f a e).getD (a + e.length) 0 ^^^ y)
  | [], _, _, _ => rfl
  | z :: r, f, a, y => by
    show turn (f.set a _) (a + 1) (r ++ [y]) = (turn (f.set a _) (a + 1) r).set _ _
    rw [turn_more r, show a + 1 + r.length = a + (z :: r).length from by simp; omega]
    rfl
theorem turn_eq : ∀ (e f : List UInt8) (a : Nat), a + e.length ≤ f.length → turn f a e = f.take a ++ xors ((f.drop a).take e.length) e ++ f.drop (a + e.length)
  | [], f, a, _ => by simp [turn, xors]
  | y :: r, f, a, h => by
    have h' : a + (r.length + 1) ≤ f.length := by simpa using h
    show turn (f.set a _) (a + 1) r = _
    rw [turn_eq r _ _ (by simp; omega)]
    have ha : a < f.length := by omega
    have e1 : (f.set a (f.getD a 0 ^^^ y)).take (a + 1) = f.take a ++ [f.getD a 0 ^^^ y] := by
      rw [List.take_add_one, List.take_set_of_le (Nat.le_refl _)]
      simp [ha]
    have e2 : ∀ k, a + 1 ≤ k → (f.set a (f.getD a 0 ^^^ y)).drop k = f.drop k := fun k hk => List.drop_set_of_lt (by omega)
    rw [e1, e2 _ (Nat.le_refl _), e2 _ (by omega)]
    have e3 : (f.drop a).take (r.length + 1) = f.getD a 0 :: (f.drop (a + 1)).take r.length := by
      rw [List.drop_eq_getElem_cons ha, List.take_succ_cons]
      congr 1
      simp [List.getD, ha]
    show f.take a ++ [f.getD a 0 ^^^ y] ++ xors _ r ++ _ = f.take a ++ xors ((f.drop a).take (r.length + 1)) (y :: r) ++ f.drop (a + (r.length + 1))
    rw [e3, show a + 1 + r.length = a + (r.length + 1) from by omega]
    simp [xors]
theorem xors_inj : ∀ (m e : List UInt8), m.length = e.length → xors m e = m → ∀ x ∈ e, x = 0
  | [], [], _, _, x, hx => by cases hx
  | [], _ :: _, h, _, _, _ => by simp at h
  | _ :: _, [], h, _, _, _ => by simp at h
  | a :: m, y :: e, h, hx, x, hm => by
    simp only [xors, List.zipWith_cons_cons, List.cons.injEq] at hx
    rcases List.mem_cons.1 hm with rfl | hm
    · have := congrArg (a ^^^ ·) hx.1
      simpa [← UInt8.xor_assoc] using this
    · exact xors_inj m e (by simpa using h) hx.2 x hm
theorem xors_zero : ∀ (m e : List UInt8), m.length = e.length → (∀ x ∈ e, x = 0) → xors m e = m
  | [], [], _, _ => rfl
  | [], _ :: _, h, _ => by simp at h
  | _ :: _, [], h, _ => by simp at h
  | a :: m, y :: e, h, hx => by
    have hy : y = 0 := hx y (by simp)
    subst hy
    show (a ^^^ 0) :: xors m e = a :: m
    rw [xors_zero m e (by simpa using h) fun x hm => hx x (by simp [hm]), UInt8.xor_zero]
theorem turn_same {f e : List UInt8} {a : Nat} (h : a + e.length ≤ f.length) : turn f a e = f ↔ ∀ x ∈ e, x = 0 := by
  rw [turn_eq e f a h]
  have hl : ((f.drop a).take e.length).length = e.length := by simp; omega
  have hf : f = f.take a ++ (f.drop a).take e.length ++ f.drop (a + e.length) := by
    rw [List.append_assoc, ← List.drop_drop, List.take_append_drop, List.take_append_drop]
  constructor
  · intro hx
    rw [hf] at hx
    have hx2 : f.take a ++ xors ((f.drop a).take e.length) e ++ f.drop (a + e.length) = f.take a ++ (f.drop a).take e.length ++ f.drop (a + e.length) := by
      rw [← hf] at hx; rw [← hf]; exact hx
    have hx3 := List.append_cancel_left (by simpa only [List.append_assoc] using hx2 : f.take a ++ (xors ((f.drop a).take e.length) e ++ f.drop (a + e.length)) = f.take a ++ ((f.drop a).take e.length ++ f.drop (a + e.length)))
    exact xors_inj _ e hl (List.append_cancel_right hx3)
  · intro hx
    rw [xors_zero _ e hl hx]
    exact hf.symm
/-- What is turned is refused. -/
theorem turned_refused {l e : List UInt8} {a : Nat} (hl : l.length ≤ 8184) (hf : a + e.length ≤ l.length + 8) (he : e.length ≤ 1 ∨ 8 ≤ a ∧ e.length ≤ 4) : openE (turn (frameP l) a e) = 0 ↔ ∀ x ∈ e, x = 0 := by
  have hL := frameP_len l
  constructor
  · intro h
    obtain ⟨h1, h2, h3⟩ := open_frame h
    by_cases h8 : 8 ≤ a
    · have e4 : e.length ≤ 4 := by omega
      have ht := turn_eq e (frameP l) a (by omega)
      obtain ⟨p1, p2, p3, p4, p5⟩ := frame_parts l
      -- the body, turned
      have hb : (turn (frameP l) a e).drop 8 = l.take (a - 8) ++ xors ((l.drop (a - 8)).take e.length) e ++ l.drop (a - 8 + e.length) := by
        have q1 : (frameP l).take a = (frameP l).take 8 ++ l.take (a - 8) := by
          conv => lhs; rw [show a = 8 + (a - 8) from by omega, List.take_add, p4]
        have q2 : (frameP l).drop a = l.drop (a - 8) := by
          conv => lhs; rw [show a = 8 + (a - 8) from by omega, ← List.drop_drop, p4]
        have q3 : (frameP l).drop (a + e.length) = l.drop (a - 8 + e.length) := by
          rw [← List.drop_drop, q2, List.drop_drop]
        rw [ht, q1, q2, q3]
        simp only [List.append_assoc]
        rw [List.drop_append_of_le_length (by simp; omega), List.drop_of_length_le (by simp; omega), List.nil_append]
      have hk : (turn (frameP l) a e).take 8 = (frameP l).take 8 := by
        rw [ht, List.append_assoc, List.take_append_of_le_length (by simp; omega), List.take_take, Nat.min_eq_left h8]
      have hlen : ((turn (frameP l) a e).drop 8).length = l.length := by rw [List.length_drop, turn_len, hL]; omega
      generalize hB : (turn (frameP l) a e).drop 8 = B at *
      have hs : ((frameP B).drop 4).take 4 = ((frameP l).drop 4).take 4 := by
        rw [← h1]
        have := congrArg (List.drop 4) hk
        rwa [List.drop_take, List.drop_take] at this
      obtain ⟨_, _, b3, _, _⟩ := frame_parts B
      rw [b3, p3, hlen] at hs
      have hS := lows_inj (sumP_lt _ _) (sumP_lt _ _) hs
      have hc := sumP_inj hS
      have hl' : l = l.take (a - 8) ++ (l.drop (a - 8)).take e.length ++ l.drop (a - 8 + e.length) := by
        rw [List.append_assoc, ← List.drop_drop, List.take_append_drop, List.take_append_drop]
      rw [hb] at hc
      obtain ⟨H, hH⟩ : ∃ H, headP l.length = H := ⟨_, rfl⟩
      rw [hH] at hc
      conv at hc => rhs; rw [hl']
      simp only [← List.append_assoc] at hc
      exact crc_turned 4294967295 (by decide) (H ++ l.take (a - 8)) ((l.drop (a - 8)).take e.length) e _ (by rw [List.length_take, List.length_drop]; omega) e4 hc
    · have e1 : e.length ≤ 1 := by omega
      refine (turn_same (f := frameP l) (a := a) (by omega)).1 ?_
      rw [h1]
      have : (turn (frameP l) a e).drop 8 = l := by
        obtain ⟨_, _, _, p4, _⟩ := frame_parts l
        match e, e1 with
        | [], _ => exact p4
        | [y], _ =>
          show ((frameP l).set a _).drop 8 = l
          rw [List.drop_set_of_lt (by omega), p4]
        | _ :: _ :: _, h => simp at h
      rw [this]
  · intro h
    rw [(turn_same (f := frameP l) (a := a) (by omega)).2 h]
    exact frame_open hl
end Go.Proofs.YtomklacjaadcaaaDoor
