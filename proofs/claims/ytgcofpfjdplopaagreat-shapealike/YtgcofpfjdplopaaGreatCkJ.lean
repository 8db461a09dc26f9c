/- ring's wrongPair and Check, over what is wrong with two edges. ring's Check. -/
import Derived.Test.YtgcofpfjdplopaaGreatSt
import Derived.WalkMore
namespace Go.Proofs.YtgcofpfjdplopaaGreat
section
open Go.RowKit Go.Shelf Go.Sort

/-- r tells of the first pair at which f is not 0. -/
def IsFirst (f : Nat → Nat → Int) (n : Nat) (r : Int × Int × Int) : Prop :=
  (r = (0, 0, 0) ∧ ∀ i j, i < j → j < n → f i j = 0) ∨
  (∃ i j, i < j ∧ j < n ∧ f i j ≠ 0 ∧ r = (f i j, (i : Int), (j : Int)) ∧ ∀ i' j', i' < j' → j' < n → (i' < i ∨ (i' = i ∧ j' < j)) → f i' j' = 0)
theorem IsFirst.unique {f g : Nat → Nat → Int} {n : Nat} {r s : Int × Int × Int} (h : IsFirst f n r) (k : IsFirst g n s) (e : ∀ i j, i < j → j < n → f i j = g i j) : r = s := by
  rcases h with ⟨rfl, h⟩ | ⟨i, j, hij, hjn, hf, rfl, h⟩
  · rcases k with ⟨rfl, _⟩ | ⟨i', j', hij', hjn', hf', _, _⟩
    · rfl
    · exact absurd ((e i' j' hij' hjn').symm.trans (h i' j' hij' hjn')) hf'
  · rcases k with ⟨_, k⟩ | ⟨i', j', hij', hjn', hf', rfl, k⟩
    · exact absurd ((e i j hij hjn).trans (k i j hij hjn)) hf
    · have h1 : ¬ (i' < i ∨ (i' = i ∧ j' < j)) := fun q => hf' ((e i' j' hij' hjn').symm.trans (h i' j' hij' hjn' q))
      have h2 : ¬ (i < i' ∨ (i = i' ∧ j < j')) := fun q => hf ((e i j hij hjn).trans (k i j hij hjn q))
      obtain rfl : i = i' := by omega
      obtain rfl : j = j' := by omega
      rw [e i j hij hjn]

set_option maxRecDepth 100000 in
set_option maxHeartbeats 8000000 in
theorem wrongPair_any (f : Nat → Nat → Int) (hf24 : ∀ i j, -9223372036854775808 ≤ f i j ∧ f i j ≤ 9223372036854775807) (ao : Option Addr) (cap n : Nat) (hn : n ≤ 17592186043904) (w : World)
    (PF : ∀ W i j, Below w.heap.size w W → i < j → j < n → Calls Tryz.prog 122 #[.slice ao n cap, .int .i64 (i : Int), .int .i64 (j : Int)] W fun e w' => e = .returned (.int .i64 (f i j)) ∧ Below W.heap.size W w') :
    Calls Tryz.prog 113 #[.slice ao n cap] w fun e w' => ∃ r, e = .returned (.tuple #[.int .i64 r.1, .int .i64 r.2.1, .int .i64 r.2.2]) ∧ IsFirst f n r ∧ Below w.heap.size w w' := by
  have HF : Hid (∀ W i j, Below w.heap.size w W → i < j → j < n → Calls Tryz.prog 122 #[.slice ao n cap, .int .i64 (i : Int), .int .i64 (j : Int)] W fun e w' => e = .returned (.int .i64 (f i j)) ∧ Below W.heap.size W w') := PF
  clear PF
  go_enter Tryz.func113, Tryz.ntmps113
  go_wp2
  go_step3
  go_wp2
  go_step3
  go_wp2
  go_loopw [2, 3, 4, 5, 6, 7, 10] (fun r2 r3 r4 _ _ _ i wr => ∃ k : Nat, k ≤ n ∧ i = .int .i64 k ∧ r2 = .int .i64 0 ∧ r3 = .int .i64 0 ∧ r4 = .int .i64 0 ∧ Hid (∀ i j, i < j → j < n → i < k → f i j = 0) ∧ Below w.heap.size w wr) (fun _ _ _ _ _ _ i _ => n - (intOf i).toNat)
  case atStart => exact ⟨0, by omega, rfl, rfl, rfl, rfl, (by intro i j _ _ h; omega), Below.refl _ _⟩
  case round =>
    obtain ⟨k, hk, rfl, rfl, rfl, rfl, hz, hB⟩ := hrel
    by_cases hlt : k < n
    · go_wp2
      go_loopw [2, 3, 4, 6, 7] (fun r2 r3 r4 t _ wq => ∃ m : Nat, k + 1 ≤ m ∧ m ≤ n ∧ t = .int .i64 m ∧ r2 = .int .i64 0 ∧ r3 = .int .i64 0 ∧ r4 = .int .i64 0 ∧ Hid (∀ j, k < j → j < m → f k j = 0) ∧ Below w.heap.size w wq) (fun _ _ _ t _ _ => n - (intOf t).toNat)
      case atStart => exact ⟨k + 1, by omega, by omega, by go_num, rfl, rfl, rfl, (by intro j _ _; omega), hB⟩
      case round =>
        clear hB
        obtain ⟨m, hkm, hm, rfl, rfl, rfl, rfl, hy, hB⟩ := hrel
        by_cases hlt2 : m < n
        · have C := HF.out wr k m hB (by omega) hlt2
          have hfb := hf24 k m
          by_cases hv : f k m = 0
          · have hy2 : Hid (∀ j, k < j → j < m + 1 → f k j = 0) := fun j h1 h2 => by
              rcases Nat.lt_or_ge j m with h | h
              · exact hy.out j h1 h
              · obtain rfl : j = m := by omega
                exact hv
            rw [hv] at C
            replace C : Hid (Calls Tryz.prog 122 #[.slice ao n cap, .int .i64 (k : Int), .int .i64 (m : Int)] wr fun e w' => e = .returned (.int .i64 0) ∧ Below wr.heap.size wr w') := C
            clear hv hfb
            go_wp2_with (go_at_call 122; refine C.out.mono ?_; rintro e w1 ⟨rfl, g1⟩)
            go_roundw
            case rel => exact ⟨m + 1, by omega, by omega, by go_num, rfl, rfl, rfl, hy2, hB.trans (g1.mono hB.size)⟩
            case measure => simp [intOf]; omega
          · have hv' : (f k m != 0) = true := by simpa using hv
            have hres : Hid (IsFirst f n (f k m, (k : Int), (m : Int))) := .inr ⟨k, m, by omega, hlt2, hv, rfl, fun i' j' h1 h2 h3 => by
              rcases h3 with h3 | ⟨rfl, h3⟩
              · exact hz.out i' j' h1 h2 h3
              · exact hy.out j' h1 h3⟩
            replace C : Hid (Calls Tryz.prog 122 #[.slice ao n cap, .int .i64 (k : Int), .int .i64 (m : Int)] wr fun e w' => e = .returned (.int .i64 (f k m)) ∧ Below wr.heap.size wr w') := C
            generalize f k m = v at *
            clear hz hy HF hf24
            go_wp2_with (go_at_call 122; refine C.out.mono ?_; rintro e w1 ⟨rfl, g1⟩)
            rw [Exit.noGoto_ret]
            refine bodyPost_ret (v := .tuple #[.int .i64 v, .int .i64 (k : Int), .int .i64 (m : Int)]) (by simp [results, Tryz.results113, go_sem]) rfl ⟨(v, (k : Int), (m : Int)), rfl, hres.out, hB.trans (g1.mono hB.size)⟩
        · have hmn : m = n := by omega
          have hz2 : Hid (∀ i j, i < j → j < n → i < k + 1 → f i j = 0) := fun i j h1 h2 h3 => by
            rcases Nat.lt_or_ge i k with h | h
            · exact hz.out i j h1 h2 h
            · obtain rfl : i = k := by omega
              exact hy.out j h1 (by omega)
          clear hz hy
          subst hmn
          go_wp2
          go_roundw
          case rel => exact ⟨k + 1, by omega, by go_num, rfl, rfl, rfl, hz2, hB⟩
          case measure => simp [intOf]; omega
    · have hkn : k = n := by omega
      have hres : Hid (IsFirst f n (0, 0, 0)) := .inl ⟨rfl, fun i j h1 h2 => hz.out i j h1 h2 (by omega)⟩
      clear hz
      subst hkn
      go_wp2
      rw [Exit.noGoto_ret]
      refine bodyPost_ret (v := .tuple #[.int .i64 0, .int .i64 0, .int .i64 0]) (by simp [results, Tryz.results113, go_sem]) rfl ⟨(0, 0, 0), rfl, hres.out, hB⟩
end
section
open Go.RowKit Go.Shelf Go.Sort

/-- What is wrong with a list first, and where. -/
def CheckIs (f : Nat → Nat → Int) (L : List (Int × Int)) (r : Int × Int × Int) : Prop :=
  if L.length < 3 ∨ 64 < L.length then r = (60, 0, 0)
  else if 0 ≤ fstI (outB L) L.length then r = (61, fstI (outB L) L.length, 0)
  else if 0 ≤ fstI (samB L) L.length then r = (62, fstI (samB L) L.length, ((((fstI (samB L) L.length).toNat + 1) % L.length : Nat) : Int))
  else IsFirst f L.length r
theorem fst_bd (q : Nat → Bool) (n : Nat) : fstI q n = -1 ∨ ∃ k : Nat, k < n ∧ fstI q n = k := by
  unfold fstI
  cases h : (List.range n).find? q with
  | none => exact .inl rfl
  | some k => exact .inr ⟨k, List.mem_range.1 (List.mem_of_find?_eq_some h), rfl⟩

set_option maxRecDepth 100000 in
set_option maxHeartbeats 8000000 in
theorem check_any (f : Nat → Nat → Int) (hf24 : ∀ i j, -9223372036854775808 ≤ f i j ∧ f i j ≤ 9223372036854775807) (ao : Option Addr) (cap : Nat) (L : List (Int × Int)) (hlen : L.length ≤ 17592186043904) (hno : ao = none → L.length = 0 ∧ cap = 0) (w : World) (hP : Pts w ao L)
    (PF : ∀ W i j, Below w.heap.size w W → i < j → j < L.length → Calls Tryz.prog 122 #[.slice ao L.length cap, .int .i64 (i : Int), .int .i64 (j : Int)] W fun e w' => e = .returned (.int .i64 (f i j)) ∧ Below W.heap.size W w') :
    Calls Tryz.prog 77 #[.slice ao L.length cap] w fun e w' => ∃ r, e = .returned (.tuple #[.int .i64 r.1, .int .i64 r.2.1, .int .i64 r.2.2]) ∧ CheckIs f L r ∧ Below w.heap.size w w' := by
  have IX : Hid (Calls Tryz.prog 109 #[.slice ao L.length cap, .func (.func 110) #[] #[]] w fun e w' => e = .returned (.int .i64 (fstI (outB L) L.length)) ∧ Below w.heap.size w w') := (index_any ao cap L hlen w hP).mono fun e w' h => ⟨h.1, h.2.below⟩
  have SX : Hid (∀ W, Below w.heap.size w W → Calls Tryz.prog 111 #[.slice ao L.length cap] W fun e w' => e = .returned (.int .i64 (fstI (samB L) L.length)) ∧ Below W.heap.size W w') := fun W hW => callsIn_wide.1 (standing_in 9 (by omega) ao cap L hlen hno W (hP.mono hW))
  have WX : Hid (∀ W, Below w.heap.size w W → Calls Tryz.prog 113 #[.slice ao L.length cap] W fun e w' => ∃ r, e = .returned (.tuple #[.int .i64 r.1, .int .i64 r.2.1, .int .i64 r.2.2]) ∧ IsFirst f L.length r ∧ Below W.heap.size W w') := fun W hW => wrongPair_any f hf24 ao cap L.length hlen W (fun W' i j hW' => PF W' i j (hW.trans (hW'.mono hW.size)))
  have NX : Hid (∀ W k, k < L.length → Calls Tryz.prog 112 #[.slice ao L.length cap, .int .i64 ((k : Nat) : Int)] W fun e w' => e = .returned (.int .i64 (((k + 1) % L.length : Nat) : Int)) ∧ w' = W) := fun W k hk => next_any ao cap L.length hlen k hk W
  have CI : Hid (∀ r, (if L.length < 3 ∨ 64 < L.length then r = (60, 0, 0) else if 0 ≤ fstI (outB L) L.length then r = (61, fstI (outB L) L.length, 0) else if 0 ≤ fstI (samB L) L.length then r = (62, fstI (samB L) L.length, ((((fstI (samB L) L.length).toNat + 1) % L.length : Nat) : Int)) else IsFirst f L.length r) → CheckIs f L r) := fun r h => h
  have ho := fst_bd (outB L) L.length
  have hs := fst_bd (samB L) L.length
  clear hP PF hno
  by_cases h3 : L.length < 3
  · have hc : Hid (CheckIs f L (60, 0, 0)) := CI.out _ (by rw [if_pos (.inl h3)])
    clear CI IX SX WX NX ho hs
    go_enter Tryz.func77, Tryz.ntmps77
    go_wp2
    refine bodyPost_ret (v := .tuple #[.int .i64 60, .int .i64 0, .int .i64 0]) (by simp [results, Tryz.results77, go_sem]) rfl ?_
    first | exact ⟨(60, 0, 0), rfl, hc.out, Below.refl _ _⟩ | exact ⟨60, 0, 0, rfl, hc.out, Below.refl _ _⟩
  · by_cases h64 : 64 < L.length
    · have hc : Hid (CheckIs f L (60, 0, 0)) := CI.out _ (by rw [if_pos (.inr h64)])
      clear CI IX SX WX NX ho hs
      go_enter Tryz.func77, Tryz.ntmps77
      go_wp2
      refine bodyPost_ret (v := .tuple #[.int .i64 60, .int .i64 0, .int .i64 0]) (by simp [results, Tryz.results77, go_sem]) rfl ?_
      first | exact ⟨(60, 0, 0), rfl, hc.out, Below.refl _ _⟩ | exact ⟨60, 0, 0, rfl, hc.out, Below.refl _ _⟩
    · replace CI : Hid (∀ r, (if 0 ≤ fstI (outB L) L.length then r = (61, fstI (outB L) L.length, 0) else if 0 ≤ fstI (samB L) L.length then r = (62, fstI (samB L) L.length, ((((fstI (samB L) L.length).toNat + 1) % L.length : Nat) : Int)) else IsFirst f L.length r) → CheckIs f L r) := fun r h => CI.out r (by rw [if_neg (by omega)]; exact h)
      generalize fstI (outB L) L.length = o at *
      rcases ho with rfl | ⟨k, hk, rfl⟩
      · replace CI : Hid (∀ r, (if 0 ≤ fstI (samB L) L.length then r = (62, fstI (samB L) L.length, ((((fstI (samB L) L.length).toNat + 1) % L.length : Nat) : Int)) else IsFirst f L.length r) → CheckIs f L r) := fun r h => CI.out r (by rw [if_neg (by omega)]; exact h)
        generalize fstI (samB L) L.length = s at *
        rcases hs with rfl | ⟨k, hk, rfl⟩
        · replace CI : Hid (∀ r, IsFirst f L.length r → CheckIs f L r) := fun r h => CI.out r (by rw [if_neg (by omega)]; exact h)
          go_enter Tryz.func77, Tryz.ntmps77
          go_wp2_with (first | (go_at_call 109; refine IX.out.mono ?_; rintro e w1 ⟨rfl, g1⟩) | (go_at_call 111; refine (SX.out _ g1).mono ?_; rintro e w2 ⟨rfl, g2⟩; have g12 := g1.trans (g2.mono g1.size)) | (go_at_call 113; refine (WX.out _ g12).mono ?_; rintro e w3 ⟨⟨r1, r2, r3⟩, rfl, hr, g3⟩))
          refine bodyPost_ret (v := .tuple #[.int .i64 r1, .int .i64 r2, .int .i64 r3]) (by simp [results, Tryz.results77, go_sem]) rfl ⟨(r1, r2, r3), rfl, CI.out _ hr, g12.trans (g3.mono g12.size)⟩
        · have hc : Hid (CheckIs f L (62, (k : Int), (((k + 1) % L.length : Nat) : Int))) := CI.out _ (by rw [if_pos (by omega)]; simp)
          have N := NX.out
          replace NX : Hid (∀ W, Calls Tryz.prog 112 #[.slice ao L.length cap, .int .i64 (k : Int)] W fun e w' => e = .returned (.int .i64 (((k + 1) % L.length : Nat) : Int)) ∧ w' = W) := fun W => N W k hk
          clear N CI WX
          generalize (k + 1) % L.length = m at *
          go_enter Tryz.func77, Tryz.ntmps77
          go_wp2_with (first | (go_at_call 109; refine IX.out.mono ?_; rintro e w1 ⟨rfl, g1⟩) | (go_at_call 111; refine (SX.out _ g1).mono ?_; rintro e w2 ⟨rfl, g2⟩; have g12 := g1.trans (g2.mono g1.size)) | (go_at_call 112; refine (NX.out _).mono ?_; rintro e w3 ⟨rfl, rfl⟩))
          refine bodyPost_ret (v := .tuple #[.int .i64 62, .int .i64 (k : Int), .int .i64 (m : Int)]) (by simp [results, Tryz.results77, go_sem]) rfl ⟨(62, (k : Int), (m : Int)), rfl, hc.out, g12⟩
      · have hc : Hid (CheckIs f L (61, (k : Int), 0)) := CI.out _ (by rw [if_pos (by omega)])
        clear CI WX SX NX hs
        go_enter Tryz.func77, Tryz.ntmps77
        go_wp2_with (first | (go_at_call 109; refine IX.out.mono ?_; rintro e w1 ⟨rfl, g1⟩))
        refine bodyPost_ret (v := .tuple #[.int .i64 61, .int .i64 (k : Int), .int .i64 0]) (by simp [results, Tryz.results77, go_sem]) rfl ⟨(61, (k : Int), 0), rfl, hc.out, g1⟩
end
end Go.Proofs.YtgcofpfjdplopaaGreat
