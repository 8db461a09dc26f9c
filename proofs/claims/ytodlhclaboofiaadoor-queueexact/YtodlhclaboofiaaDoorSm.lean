/- The ring of texts: All, as it is asked for and as it is gone over. -/
import Derived.Test.YtodlhclaboofiaaDoorSt
import Derived.Test.YtodlhclaboofiaaDoorSq
set_option linter.unusedSimpArgs false
set_option linter.unusedVariables false
namespace Go.Proofs.YtodlhclaboofiaaDoor
open Go.RowKit Go.Sort Go.Shelf
attribute [local go_sem] Oper.semAt_some wide_fn
attribute [local simp] wide_fn

/-- A list with its places. -/
def idx (L : List Int) : List (Nat × Int) := (List.range L.length).map fun i => (i, L.getD i 0)
theorem idx_len (L : List Int) : (idx L).length = L.length := by simp [idx]
theorem idx_at {L : List Int} {k : Nat} (hk : k < L.length) : (idx L)[k]? = some (k, L.getD k 0) := by simp [idx, hk]
theorem idx_pre {L : List Int} {k : Nat} (hk : k < L.length) : (idx L).take k ++ [(k, L.getD k 0)] <+: idx L ∧ (idx L).take (k + 1) = (idx L).take k ++ [(k, L.getD k 0)] := by
  have e : (idx L).take (k + 1) = (idx L).take k ++ [(k, L.getD k 0)] := by
    rw [List.take_add_one, idx_at hk]
    rfl
  exact ⟨e ▸ List.take_prefix _ _, e⟩
def sEnc (x : Nat × Int) : Array Value := #[.int .i64 (x.1 : Int), sV x.2]
/-- What All has laid: the captured list of the values L. -/
structure sKept (w : World) (b N : Nat) (L : List Int) : Prop where
  cap : Bk w b 61 [.slice (some ⟨N, 0, none⟩) L.length L.length]
  row : Bk w N 9 (L.flatMap senc)
theorem sKept.gr {w w' : World} {b N : Nat} {L : List Int} (h : sKept w b N L) (g : Gr w w') : sKept w' b N L := ⟨h.cap.gr g, h.row.gr g⟩
theorem sKept.chg {p : Nat → Prop} {w w' : World} {b N : Nat} {L : List Int} (h : sKept w b N L) (g : Chg p w w') (h1 : ¬ p b) (h2 : ¬ p N) : sKept w' b N L := ⟨h.cap.chg g h1, h.row.chg g h2⟩
theorem s_row_at {w : World} {N : Nat} {L : List Int} (h : Bk w N 9 (L.flatMap senc)) {i : Nat} {v : Int} (hv : L[i]? = some v) : w.cell? ⟨N, i, none⟩ = some (sV v) := by
  have := (h.at (i * 1 + 0)).trans (flat_at senc_len L i 0 v hv (by omega))
  simpa [senc] using this
set_option maxRecDepth 100000 in
set_option maxHeartbeats 4000000 in
theorem s_all1_in (n : Nat) (l b N : Nat) (L : List Int) (hL : L.length ≤ 65536) (J : (Nat → Prop) → List (Nat × Int) → World → Prop) (Jx : List (Nat × Int) → World → Prop) (p : Nat → Prop) (W : World)
    (hb : sKept W b N L) (pb : p b) (pN : p N) (hps : ∀ b, p b → b < W.heap.size) (hJ : Con W.heap.size J)
    (hY : ∀ pre x W1, (∀ b, p b → b < W1.heap.size) → J p pre W1 → W.heap.size ≤ W1.heap.size → pre ++ [x] <+: idx L → YieldAt Fence.wide 0 Tryd.prog l (sEnc x) W1 (RoundEnds W.heap.size J Jx p (pre ++ [x]) W1))
    (h0 : J p [] W) :
    CallsIn Fence.wide n Tryd.prog 20 #[.func (.yield l) #[] #[], .pointer (some ⟨b, 0, none⟩)] W fun e W' => (∃ v, e = .returned v) ∧
      ((∃ q, J q (idx L) W' ∧ ∀ b, p b → q b) ∨ (∃ pre, pre <+: idx L ∧ Jx pre W')) := by
  have HY := hid0 hY
  have HB := hid0 hb
  have c0 := hb.cap.one
  clear hY hb
  refine callsIn_of_wp Tryd.func20 rfl trivial ?_ rfl
  simp only [Tryd.ntmps20, List.size_toArray, List.length_cons, List.length_nil, Nat.reduceAdd, Nat.reduceSub, Array.replicate_succ, Array.replicate_zero, List.push_toArray, List.append_toArray, List.nil_append, List.cons_append]
  gi_wp2
  gi_loopw [6] (fun v wr => ∃ k : Nat, k ≤ L.length ∧ v = .int .i64 k ∧ Hid (J p ((idx L).take k) wr) ∧ Hid (Kp p W wr) ∧ W.heap.size ≤ wr.heap.size) (fun v _ => L.length - (intOf v).toNat)
  case atStart => exact ⟨0, Nat.zero_le _, rfl, h0, Kp.refl _, Nat.le_refl _⟩
  case round =>
    clear c0 h0
    obtain ⟨k, hk, rfl, hJ1, hK, hsz⟩ := hrel
    by_cases hlt : k < L.length
    · have hlt' : (k : Int) < (L.length : Int) := by omega
      have c0 : wr.cell? ⟨b, 0, none⟩ = some (.slice (some ⟨N, 0, none⟩) L.length L.length) := (HB.out.cap.same (hK.out b pb)).one
      have ck : wr.cell? ⟨N, k, none⟩ = some (sV (L.getD k 0)) := s_row_at (HB.out.row.same (hK.out N pN)) (by simp [List.getD, List.getElem?_eq_getElem hlt])
      obtain ⟨t1, t2⟩ := idx_pre hlt
      have hy := HY.out ((idx L).take k) (k, L.getD k 0) wr (fun b hb => Nat.lt_of_lt_of_le (hps b hb) hsz) hJ1.out hsz t1
      have HT : Hid ((idx L).take k ++ [(k, L.getD k 0)] = (idx L).take (k + 1)) := t2.symm
      rw [← t2] at hy
      have HP1 := hid0 (List.take_prefix (k + 1) (idx L))
      generalize L.getD k 0 = x at *
      obtain ⟨fn, tmps, assign, body, hy, hRd⟩ := yield_depth (n - 1) hy
      clear t1 t2
      dsimp only [sEnc] at hy
      gi_wp2
      refine ⟨fun h => (by cases h), hRd.mono ?_⟩
      clear hy hRd ck c0
      rintro e W3 (⟨rfl, hJ3, hk3, hf3⟩ | ⟨rfl, hJx3, hf3⟩)
      · replace hJ3 := hid0 hJ3
        have hK3 := hid0 (hK.out.t hk3)
        have hs3 := hf3.size
        clear hk3 hf3 hJ1 hK
        gi_wp2
        go_roundw
        case rel => exact ⟨k + 1, by omega, by go_num, hJ3, hK3, by omega⟩
        case measure => simp [intOf]; omega
      · replace hJx3 := hid0 hJx3
        clear hf3
        gi_wp2
        refine bodyPost_ret (results_none rfl _ _ _) rfl ?_
        exact ⟨⟨_, rfl⟩, .inr ⟨_, HP1.out, hJx3.out⟩⟩
    · have hlt' : ¬ (k : Int) < (L.length : Int) := by omega
      have ek : k = L.length := by omega
      have hJE : J p (idx L) wr := by
        have := hJ1.out
        rw [ek, ← idx_len L, List.take_length] at this
        exact this
      replace hJE := hid0 hJE
      clear hJ1
      gi_wp2
      go_end0
      exact ⟨⟨_, rfl⟩, .inl ⟨p, hJE.out, fun _ h => h⟩⟩
theorem s_all1_seq (n b N : Nat) (L : List Int) (hL : L.length ≤ 65536) (w : World) (hb : sKept w b N L) :
    SeqO n 20 #[.pointer (some ⟨b, 0, none⟩)] sEnc (idx L) (tw b N) w := fun l J Jx p W gW hp hpb hJ _ hY h0 =>
  s_all1_in n l b N L hL J Jx p W (hb.gr gW) (hp b (.inl rfl)) (hp N (.inr rfl)) hpb hJ (fun pre x W1 h2 h3 h4 h5 => hY p pre x W1 hp h2 h3 h4 h5) h0
end Go.Proofs.YtodlhclaboofiaaDoor
