/- The reference's thin: which places of the line are marked. -/
import Derived.Test.YtljdnahomhbenaaFt
namespace Go.Proofs.Ytljdnahomhbenaa
section
set_option linter.unusedSimpArgs false
set_option linter.unusedVariables false
open Go.RowKit Go.Sort Go.Lib Go.Shelf
attribute [local go_sem] Oper.semAt_some wide_fn
attribute [local simp] wide_fn

set_option maxRecDepth 20000 in
def InvT (W : World) (b off cap n i j k : Nat) (A Z q : Int × Int) (N M : Int) (u0 u1 u2 u3 u4 u5 u6 u7 u8 u9 u10 u11 u12 u13 u16 u17 u18 u19 u20 u21 u22 u39 u40 u41 u42 u43 u44 u45 u46 u47 u48 u49 u50 u51 u52 u53 u54 u55 u56 u57 u58 u59 u60 u61 u62 u63 u64 u65 u66 u67 u68 u69 u70 u71 u72 u73 u74 u75 u76 u77 u78 u79 u80 u81 u82 u83 u84 : Value) (d : Nat → Prop) (act : Act) (w : World) : Prop :=
  ∃ u14 u15 u23 u24 u25 u26 u27 u28 u29 u30 u31 u32 u33 u34 u35 u36 u37 u38 : Value, act = { tmps := (u0 :: u1 :: u2 :: u3 :: u4 :: u5 :: u6 :: u7 :: u8 :: u9 :: u10 :: u11 :: u12 :: u13 :: u14 :: u15 :: u16 :: u17 :: u18 :: u19 :: u20 :: u21 :: u22 :: u23 :: u24 :: u25 :: u26 :: u27 :: u28 :: u29 :: u30 :: u31 :: u32 :: u33 :: u34 :: u35 :: u36 :: u37 :: u38 :: u39 :: u40 :: u41 :: u42 :: u43 :: u44 :: u45 :: u46 :: u47 :: u48 :: u49 :: u50 :: u51 :: u52 :: u53 :: u54 :: u55 :: u56 :: u57 :: u58 :: u59 :: u60 :: u61 :: u62 :: u63 :: u64 :: u65 :: u66 :: u67 :: u68 :: u69 :: u70 :: u71 :: u72 :: u73 :: u74 :: u75 :: u76 :: u77 :: u78 :: u79 :: u80 :: u81 :: u82 :: u83 :: u84 :: []).toArray, defers := [] } ∧ Below W.heap.size W w
  ∧ Hid (d 0 → u24 = .slice (some ⟨b, off, none⟩) n cap)
  ∧ Hid (d 1 → u25 = .int .i64 (i : Nat))
  ∧ Hid (d 2 → u26 = .pointer (some ⟨b, off + i * 2, none⟩))
  ∧ Hid (d 3 → u27 = pt A.1 A.2)
  ∧ Hid (d 4 → u28 = .slice (some ⟨b, off, none⟩) n cap)
  ∧ Hid (d 5 → u29 = .int .i64 (j : Nat))
  ∧ Hid (d 6 → u30 = .pointer (some ⟨b, off + j * 2, none⟩))
  ∧ Hid (d 7 → u31 = pt Z.1 Z.2)
  ∧ Hid (d 8 → u32 = .slice (some ⟨b, off, none⟩) n cap)
  ∧ Hid (d 9 → u33 = .int .i64 (k : Nat))
  ∧ Hid (d 10 → u34 = .pointer (some ⟨b, off + k * 2, none⟩))
  ∧ Hid (d 11 → u35 = pt q.1 q.2)
  ∧ Hid (d 12 → ∃ x y, u36 = .tuple #[x, y] ∧ Nm w x N ∧ Nm w y M)
  ∧ Hid (d 13 → ∃ x y, u23 = .tuple #[x, y] ∧ Nm w x N ∧ Nm w y M)
  ∧ Hid (d 14 → Nm w u37 N)
  ∧ Hid (d 15 → Nm w u38 M)
  ∧ Hid (d 16 → ∃ (B : Nat) (x y : Value), u14 = .pointer (some ⟨B, 0, none⟩) ∧ W.heap.size ≤ B ∧ Bk w B x y ∧ (d 18 → Nm w (.agg #[x, y]) N))
  ∧ Hid (d 17 → ∃ (B : Nat) (x y : Value), u15 = .pointer (some ⟨B, 0, none⟩) ∧ W.heap.size ≤ B ∧ Bk w B x y ∧ (d 19 → Nm w (.agg #[x, y]) M))
  ∧ Hid (d 16 → d 17 → u14 ≠ u15)

/-- The place of the furthest behind the first m points between; -1, if there are none. -/
def atI (L : List (Int × Int)) (i m : Nat) : Int := if m = 0 then -1 else ((i + bst L m : Nat) : Int)
theorem cmp_gt (x y : Int) : decide (cmpI x y > 0) = decide (y < x) := by
  unfold cmpI
  repeat' split
  all_goals (simp only [decide_eq_decide]; omega)
theorem bst_yes {L : List (Int × Int)} {m : Nat} (h : m = 0 ∨ offL L (bst L m) < offL L (m + 1)) : bst L (m + 1) = m + 1 := by rw [bst, if_pos h]
theorem bst_no {L : List (Int × Int)} {m : Nat} (h : ¬ (m = 0 ∨ offL L (bst L m) < offL L (m + 1))) : bst L (m + 1) = bst L m := by rw [bst, if_neg h]
theorem cutQ_best {V : List (Int × Int)} {tol : Int} {i j : Nat} (hij : i + 1 < j) (hj : j < V.length) :
    cutQ V tol i j = if witB (V.getD i (0, 0)) (V.getD j (0, 0)) (V.getD (i + bst (sub V i j) (j - i - 1)) (0, 0)) tol = true then 0 else bst (sub V i j) (j - i - 1) := by
  have hl := sub_len (V := V) (show i ≤ j by omega) hj
  have e0 : (sub V i j).getD 0 (0, 0) = V.getD i (0, 0) := by rw [sub_get (by omega)]; rfl
  have e1 : (sub V i j).getD ((sub V i j).length - 1) (0, 0) = V.getD j (0, 0) := by rw [sub_get (by omega), hl, show i + (j + 1 - i - 1) = j by omega]
  have hp := bst_pos (sub V i j) (j - i - 1) (by omega)
  have e2 : (sub V i j).getD (bst (sub V i j) (j - i - 1)) (0, 0) = V.getD (i + bst (sub V i j) (j - i - 1)) (0, 0) := by rw [sub_get (by omega)]
  unfold cutQ
  rw [cut_ref _ _ (by omega), show (sub V i j).length - 2 = j - i - 1 by omega]
  unfold offL witB
  rw [e0, e1, e2]
  simp only [decide_eq_true_eq]
theorem cutQ_few {V : List (Int × Int)} {tol : Int} {i j : Nat} (hij : j ≤ i + 1) : cutQ V tol i j = 0 := by
  unfold cutQ
  refine cut_few _ _ ?_
  unfold sub
  rw [List.length_take]
  omega
/-- What is marked when some places are marked more. -/
def Marks (C C' : List Bool) (l : List Nat) : Prop := C'.length = C.length ∧ ∀ k, C'.getD k false = (C.getD k false || decide (k ∈ l))
theorem Marks.none (C : List Bool) : Marks C C [] := ⟨rfl, fun k => by simp⟩
theorem Marks.join {C D E : List Bool} {l m : List Nat} (h : Marks C D l) (k : Marks D E m) : Marks C E (l ++ m) := ⟨k.1.trans h.1, fun q => by
  rw [k.2, h.2, Bool.or_assoc]
  congr 1
  simp only [List.mem_append, Bool.decide_or]⟩
theorem Marks.one {C : List Bool} {q : Nat} (h : q < C.length) : Marks C (C.set q true) [q] := ⟨by simp, fun k => by
  by_cases e : k = q
  · subst e
    rw [set_here h]; simp
  · rw [List.getD_eq_getElem?_getD, List.getElem?_set_ne (fun x => e x.symm), ← List.getD_eq_getElem?_getD]
    simp [e]⟩
theorem Marks.same {C D : List Bool} {l m : List Nat} (h : Marks C D l) (e : ∀ k, k ∈ l ↔ k ∈ m) : Marks C D m := ⟨h.1, fun k => by
  rw [h.2]
  congr 1
  exact decide_eq_decide.2 (e k)⟩

set_option maxRecDepth 20000 in
set_option maxHeartbeats 32000000 in
theorem rthin_any (b off cap g : Nat) (V : List (Int × Int)) (tol : Int) (hl : V.length ≤ 4096) (hV : ∀ p ∈ V, latP p) (ht : 0 ≤ tol ∧ tol ≤ 3037000498) (hbg : b < g) : ∀ (s i j : Nat), j - i = s → i < j → j < V.length → ∀ (C : List Bool) (w : World), C.length = V.length → Pts w (some ⟨b, off, none⟩) V → BR w g C →
    Calls Try.prog 51 #[.slice (some ⟨b, off, none⟩) V.length cap, .int .i64 i, .int .i64 j, .int .i64 tol, .slice (some ⟨g, 0, none⟩) V.length V.length] w fun e w' => e = .returned (.tuple #[]) ∧ ∃ C', BR w' g C' ∧ Marks C C' (thinP V tol i j) ∧ Below g w w' := by
  intro s
  induction s using Nat.strongRecOn with
  | ind s ih =>
  intro i j hs hij hj C w hCl hP hC
  have HP := hid0 hP
  have HC := hid0 hC
  have IH : Hid (∀ i' j', j' - i' < s → i' < j' → j' < V.length → ∀ (C : List Bool) (w : World), C.length = V.length → Pts w (some ⟨b, off, none⟩) V → BR w g C →
    Calls Try.prog 51 #[.slice (some ⟨b, off, none⟩) V.length cap, .int .i64 i', .int .i64 j', .int .i64 tol, .slice (some ⟨g, 0, none⟩) V.length V.length] w fun e w' => e = .returned (.tuple #[]) ∧ ∃ C', BR w' g C' ∧ Marks C C' (thinP V tol i' j') ∧ Below g w w') := fun i' j' h1 h2 h3 => ih (j' - i') h1 i' j' rfl h2 h3
  clear ih hP hC
  have HV := hid0 hV
  have Ht := hid0 ht
  clear hV ht
  have LG : Hid (∀ x, x < V.length → latP (V.getD x (0, 0))) := fun x hx => lat_get HV.out hx
  have BQ : Hid (∀ m, 0 < m → i + 1 + m ≤ j → i + bst (sub V i j) m < j ∧ i < i + bst (sub V i j) m ∧ (sub V i j).getD (bst (sub V i j) m) (0, 0) = V.getD (i + bst (sub V i j) m) (0, 0)) := fun m h1 h2 => by
    have := bst_pos (sub V i j) m h1
    exact ⟨by omega, by omega, by rw [sub_get (by omega)]⟩
  have OQ : Hid (∀ m, offL (sub V i j) m = offI (V.getD i (0, 0)) (V.getD j (0, 0)) ((sub V i j).getD m (0, 0))) := fun m => by
    have hl2 := sub_len (V := V) (show i ≤ j by omega) hj
    unfold offL
    rw [show (sub V i j).getD 0 (0, 0) = V.getD i (0, 0) by rw [sub_get (by omega)]; rfl, show (sub V i j).getD ((sub V i j).length - 1) (0, 0) = V.getD j (0, 0) by rw [sub_get (by omega), hl2, show i + (j + 1 - i - 1) = j by omega]]
  have SG : Hid (∀ m, i + 1 + m < j → (sub V i j).getD (m + 1) (0, 0) = V.getD (i + 1 + m) (0, 0)) := fun m hm => by rw [sub_get (by omega), show i + (m + 1) = i + 1 + m by omega]
  have CB := hid0 (fun h => cutQ_best (V := V) (tol := tol) (i := i) (j := j) h hj)
  have CF := hid0 (cutQ_few (V := V) (tol := tol) (i := i) (j := j))
  have TY := hid0 (thin_yes (V := V) (tol := tol) (i := i) (j := j))
  have TN := hid0 (thin_not (V := V) (tol := tol) (i := i) (j := j))
  generalize thinP V tol i j = RES at *
  generalize cutQ V tol i j = CQ at *
  obtain ⟨L, hL⟩ : ∃ L, sub V i j = L := ⟨_, rfl⟩
  rw [hL] at BQ OQ SG CB
  clear hL
  obtain ⟨n, hn⟩ : ∃ n, V.length = n := ⟨_, rfl⟩
  rw [hn] at hl hj hCl IH LG ⊢
  have HN := hid0 hn
  clear hn
  have k11 := (Bk.new w (.bool false) (.slice none 0 0)).alloc (.cells #[.bool false, .slice none 0 0] 53)
  have k12 : Bk ((w.alloc (.cells #[.bool false, .slice none 0 0] 53)).alloc (.cells #[.bool false, .slice none 0 0] 53)) (w.heap.size + 1) (.bool false) (.slice none 0 0) := by simpa using Bk.new (w.alloc (.cells #[.bool false, .slice none 0 0] 53)) (.bool false) (.slice none 0 0)
  have gA := (((Gr.refl w).alloc (.cells #[.bool false, .slice none 0 0] 53)).alloc (.cells #[.bool false, .slice none 0 0] 53)).below
  go_enter Try.func51, Try.ntmps51
  go_upto_region 2 with fail
  obtain ⟨b12, e12⟩ : ∃ b12, b12 = w.heap.size + 1 := ⟨_, rfl⟩
  obtain ⟨b11, e11⟩ : ∃ b11, b11 = w.heap.size := ⟨_, rfl⟩
  rw [← e12] at k12 ⊢
  rw [← e11] at k11 ⊢
  have lb : b11 ≠ b12 ∧ w.heap.size ≤ b11 ∧ w.heap.size ≤ b12 := by omega
  clear e11 e12
  generalize (w.alloc (.cells #[.bool false, .slice none 0 0] 53)).alloc (.cells #[.bool false, .slice none 0 0] 53) = W1 at *
  go_wp2
  go_loopw [10, 13] (fun av kv wr => ∃ m : Nat, i + 1 + m ≤ j ∧ kv = .int .i64 (i + 1 + m : Nat) ∧ av = .int .i64 (atI L i m) ∧ Hid (∃ x y x' y', Bk wr b11 x y ∧ Bk wr b12 x' y' ∧ (0 < m → Nm wr (.agg #[x, y]) (refF (V.getD i (0, 0)) (V.getD j (0, 0)) (L.getD (bst L m) (0, 0))).1 ∧ Nm wr (.agg #[x', y']) (refF (V.getD i (0, 0)) (V.getD j (0, 0)) (L.getD (bst L m) (0, 0))).2)) ∧ Below w.heap.size w wr) (fun _ kv _ => j - (intOf kv).toNat)
  case atStart => exact ⟨0, by omega, by go_num, rfl, ⟨_, _, _, _, k11, k12, fun h => by omega⟩, gA⟩
  case round =>
    clear k11 k12 gA
    obtain ⟨m, hmj, rfl, rfl, HB, hb⟩ := hrel
    obtain ⟨k, hk⟩ : ∃ k, i + 1 + m = k := ⟨_, rfl⟩
    rw [hk]
    have HK := hid0 hk
    by_cases hlt : k < j
    · have hlt' : (k : Int) < (j : Int) := by omega
      obtain ⟨_, _, e, a0, a1⟩ := (HP.out.mono hb) i (by rw [HN.out]; omega)
      cases e
      obtain ⟨_, _, e, z0, z1⟩ := (HP.out.mono hb) j (by rw [HN.out]; omega)
      cases e
      obtain ⟨_, _, e, p0, p1⟩ := (HP.out.mono hb) k (by rw [HN.out]; omega)
      cases e
      have RO := hid0 (fun w => roff_any (V.getD i (0, 0)) (V.getD j (0, 0)) (V.getD k (0, 0)) (LG.out _ (by omega)) (LG.out _ (by omega)) (LG.out _ (by omega)) w)
      have SM := hid0 (ref_bd (LG.out i (by omega)) (LG.out j (by omega)) (LG.out k (by omega)))
      have EN := hid0 (SG.out m (by omega))
      rw [hk] at EN
      have DEC : Hid (0 < m → decide (cmpI ((refF (V.getD i (0, 0)) (V.getD j (0, 0)) (V.getD k (0, 0))).1 * (refF (V.getD i (0, 0)) (V.getD j (0, 0)) (L.getD (bst L m) (0, 0))).2) ((refF (V.getD i (0, 0)) (V.getD j (0, 0)) (L.getD (bst L m) (0, 0))).1 * (refF (V.getD i (0, 0)) (V.getD j (0, 0)) (V.getD k (0, 0))).2) > 0) = decide (offL L (bst L m) < offL L (m + 1))) := fun _ => by
        rw [cmp_gt, OQ.out, OQ.out, EN.out, decide_eq_decide]
        exact cmp_scale _ _ _ _
      have SO : Hid (0 < m → small (refF (V.getD i (0, 0)) (V.getD j (0, 0)) (L.getD (bst L m) (0, 0))).1 ∧ small (refF (V.getD i (0, 0)) (V.getD j (0, 0)) (L.getD (bst L m) (0, 0))).2) := fun h => by
        obtain ⟨q1, q2, q3⟩ := BQ.out m h (by omega)
        rw [q3]
        exact ref_bd (LG.out i (by omega)) (LG.out j (by omega)) (LG.out _ (by omega))
      have BY := hid0 (bst_yes (L := L) (m := m))
      have BN := hid0 (bst_no (L := L) (m := m))
      obtain ⟨A, hA⟩ : ∃ A, V.getD i (0, 0) = A := ⟨_, rfl⟩
      obtain ⟨Z, hZ⟩ : ∃ Z, V.getD j (0, 0) = Z := ⟨_, rfl⟩
      obtain ⟨q, hq⟩ : ∃ q, V.getD k (0, 0) = q := ⟨_, rfl⟩
      rw [hA] at a0 a1 RO HB SM DEC SO
      rw [hZ] at z0 z1 RO HB SM DEC SO
      rw [hq] at p0 p1 RO SM DEC EN
      have HE : Hid (∀ x y x' y' (W : World), bst L (m + 1) = m + 1 → Nm W (.agg #[x, y]) (refF A Z q).1 → Nm W (.agg #[x', y']) (refF A Z q).2 → Nm W (.agg #[x, y]) (refF (V.getD i (0, 0)) (V.getD j (0, 0)) (L.getD (bst L (m + 1)) (0, 0))).1 ∧ Nm W (.agg #[x', y']) (refF (V.getD i (0, 0)) (V.getD j (0, 0)) (L.getD (bst L (m + 1)) (0, 0))).2) := fun x y x' y' W e h1 h2 => by rw [e, EN.out, hA, hZ]; exact ⟨h1, h2⟩
      have HO : Hid (∀ x y x' y' (W : World), bst L (m + 1) = bst L m → Nm W (.agg #[x, y]) (refF A Z (L.getD (bst L m) (0, 0))).1 → Nm W (.agg #[x', y']) (refF A Z (L.getD (bst L m) (0, 0))).2 → Nm W (.agg #[x, y]) (refF (V.getD i (0, 0)) (V.getD j (0, 0)) (L.getD (bst L (m + 1)) (0, 0))).1 ∧ Nm W (.agg #[x', y']) (refF (V.getD i (0, 0)) (V.getD j (0, 0)) (L.getD (bst L (m + 1)) (0, 0))).2) := fun x y x' y' W e h1 h2 => by rw [e, hA, hZ]; exact ⟨h1, h2⟩
      obtain ⟨N, hN'⟩ : ∃ N, (refF A Z q).1 = N := ⟨_, rfl⟩
      obtain ⟨M, hM'⟩ : ∃ M, (refF A Z q).2 = M := ⟨_, rfl⟩
      obtain ⟨N0, hN0⟩ : ∃ N0, (refF A Z (L.getD (bst L m) (0, 0))).1 = N0 := ⟨_, rfl⟩
      obtain ⟨M0, hM0⟩ : ∃ M0, (refF A Z (L.getD (bst L m) (0, 0))).2 = M0 := ⟨_, rfl⟩
      rw [hN'] at RO SM DEC HE
      rw [hM'] at RO SM DEC HE
      rw [hN0] at HB DEC SO HO
      rw [hM0] at HB DEC SO HO
      obtain ⟨at', hat⟩ : ∃ at', atI L i m = at' := ⟨_, rfl⟩
      rw [hat]
      have HAT := hid0 hat
      have hin : i < n := by omega
      have hkn : k < n := by omega
      clear hA hZ hq hN' hM' hN0 hM0 hat hk EN IH CB CF TY TN BQ OQ SG
      go_upto_region 5 with fail
      obtain ⟨nF, hnF⟩ : ∃ nF : Nat, 5 ≤ nF := ⟨5, by omega⟩
      have h1n : 1 ≤ nF := by omega
      refine (wpIn_wide (n := nF)).1 ?_
      refine region_inv (by kernel_rfl) (by kernel_rfl) (InvT wr b off cap n i j k A Z q N M (.slice (some ⟨b, off, none⟩) n cap) (.int .i64 (i : Nat)) (.int .i64 (j : Nat)) (.int .i64 tol) (.slice (some ⟨g, 0, none⟩) n n) undef undef undef undef undef (.int .i64 at') (.pointer (some ⟨b11, 0, none⟩)) (.pointer (some ⟨b12, 0, none⟩)) (.int .i64 (k : Nat)) (.int .i64 (i : Nat)) (.int .i64 ((i : Int) + 1)) (.int .i64 (k : Nat)) (.int .i64 (j : Nat)) (.bool true) u21 u22 u39 u40 u41 u42 u43 u44 u45 u46 u47 u48 u49 u50 u51 undef undef undef undef undef undef undef undef undef undef undef undef undef undef undef undef undef undef undef undef undef undef undef undef undef undef undef undef undef undef undef undef undef) ?h0 ?hstep ?hend
      case h0 =>
        exact ⟨_, _, _, _, _, _, _, _, _, _, _, _, _, _, _, _, _, _, rfl, (Below.refl _ _).drew, fun h => h.elim, fun h => h.elim, fun h => h.elim, fun h => h.elim, fun h => h.elim, fun h => h.elim, fun h => h.elim, fun h => h.elim, fun h => h.elim, fun h => h.elim, fun h => h.elim, fun h => h.elim, fun h => h.elim, fun h => h.elim, fun h => h.elim, fun h => h.elim, fun h => h.elim, fun h => h.elim, fun h => h.elim⟩
      case hstep =>
        intro d' a' wI iop o ho hnd D hdn hI
        have hi := (List.getElem?_eq_some_iff.1 ho).1
        simp only [List.length_cons, List.length_nil] at hi
        have : iop = 0 ∨ iop = 1 ∨ iop = 2 ∨ iop = 3 ∨ iop = 4 ∨ iop = 5 ∨ iop = 6 ∨ iop = 7 ∨ iop = 8 ∨ iop = 9 ∨ iop = 10 ∨ iop = 11 ∨ iop = 12 ∨ iop = 13 ∨ iop = 14 ∨ iop = 15 ∨ iop = 16 ∨ iop = 17 ∨ iop = 18 ∨ iop = 19 := by omega
        clear hi
        rcases this with rfl | rfl | rfl | rfl | rfl | rfl | rfl | rfl | rfl | rfl | rfl | rfl | rfl | rfl | rfl | rfl | rfl | rfl | rfl | rfl
        · -- 0
          cases ho
          obtain ⟨u14, u15, u23, u24, u25, u26, u27, u28, u29, u30, u31, u32, u33, u34, u35, u36, u37, u38, rfl, hb', f0, f1, f2, f3, f4, f5, f6, f7, f8, f9, f10, f11, f12, f13, f14, f15, f16, f17, nE⟩ := hI
          gi_wp2
          exact ⟨_, _, _, _, _, _, _, _, _, _, _, _, _, _, _, _, _, _, rfl, hb', (fun _ => rfl), (fun h => f1.out (or_ne h (by decide))), (fun h => f2.out (or_ne h (by decide))), (fun h => f3.out (or_ne h (by decide))), (fun h => f4.out (or_ne h (by decide))), (fun h => f5.out (or_ne h (by decide))), (fun h => f6.out (or_ne h (by decide))), (fun h => f7.out (or_ne h (by decide))), (fun h => f8.out (or_ne h (by decide))), (fun h => f9.out (or_ne h (by decide))), (fun h => f10.out (or_ne h (by decide))), (fun h => f11.out (or_ne h (by decide))), (fun h => f12.out (or_ne h (by decide))), (fun h => f13.out (or_ne h (by decide))), (fun h => f14.out (or_ne h (by decide))), (fun h => f15.out (or_ne h (by decide))), (fun h => by obtain ⟨B, x, y, q1, q2, q3, q4⟩ := f16.out (or_ne h (by decide)); exact ⟨B, x, y, q1, q2, q3, fun h => q4 (or_ne h (by decide))⟩), (fun h => by obtain ⟨B, x, y, q1, q2, q3, q4⟩ := f17.out (or_ne h (by decide)); exact ⟨B, x, y, q1, q2, q3, fun h => q4 (or_ne h (by decide))⟩), (fun h h' => nE.out (or_ne h (by decide)) (or_ne h' (by decide)))⟩
        · -- 1
          cases ho
          obtain ⟨u14, u15, u23, u24, u25, u26, u27, u28, u29, u30, u31, u32, u33, u34, u35, u36, u37, u38, rfl, hb', f0, f1, f2, f3, f4, f5, f6, f7, f8, f9, f10, f11, f12, f13, f14, f15, f16, f17, nE⟩ := hI
          gi_wp2
          exact ⟨_, _, _, _, _, _, _, _, _, _, _, _, _, _, _, _, _, _, rfl, hb', (fun h => f0.out (or_ne h (by decide))), (fun _ => rfl), (fun h => f2.out (or_ne h (by decide))), (fun h => f3.out (or_ne h (by decide))), (fun h => f4.out (or_ne h (by decide))), (fun h => f5.out (or_ne h (by decide))), (fun h => f6.out (or_ne h (by decide))), (fun h => f7.out (or_ne h (by decide))), (fun h => f8.out (or_ne h (by decide))), (fun h => f9.out (or_ne h (by decide))), (fun h => f10.out (or_ne h (by decide))), (fun h => f11.out (or_ne h (by decide))), (fun h => f12.out (or_ne h (by decide))), (fun h => f13.out (or_ne h (by decide))), (fun h => f14.out (or_ne h (by decide))), (fun h => f15.out (or_ne h (by decide))), (fun h => by obtain ⟨B, x, y, q1, q2, q3, q4⟩ := f16.out (or_ne h (by decide)); exact ⟨B, x, y, q1, q2, q3, fun h => q4 (or_ne h (by decide))⟩), (fun h => by obtain ⟨B, x, y, q1, q2, q3, q4⟩ := f17.out (or_ne h (by decide)); exact ⟨B, x, y, q1, q2, q3, fun h => q4 (or_ne h (by decide))⟩), (fun h h' => nE.out (or_ne h (by decide)) (or_ne h' (by decide)))⟩
        · -- 2
          cases ho
          obtain ⟨u14, u15, u23, u24, u25, u26, u27, u28, u29, u30, u31, u32, u33, u34, u35, u36, u37, u38, rfl, hb', f0, f1, f2, f3, f4, f5, f6, f7, f8, f9, f10, f11, f12, f13, f14, f15, f16, f17, nE⟩ := hI
          have e0 := f0.out (D 0 (by kernel_rfl))
          subst e0
          have e1 := f1.out (D 1 (by kernel_rfl))
          subst e1
          gi_wp2
          exact ⟨_, _, _, _, _, _, _, _, _, _, _, _, _, _, _, _, _, _, rfl, hb', (fun _ => rfl), (fun _ => rfl), (fun _ => rfl), (fun h => f3.out (or_ne h (by decide))), (fun h => f4.out (or_ne h (by decide))), (fun h => f5.out (or_ne h (by decide))), (fun h => f6.out (or_ne h (by decide))), (fun h => f7.out (or_ne h (by decide))), (fun h => f8.out (or_ne h (by decide))), (fun h => f9.out (or_ne h (by decide))), (fun h => f10.out (or_ne h (by decide))), (fun h => f11.out (or_ne h (by decide))), (fun h => f12.out (or_ne h (by decide))), (fun h => f13.out (or_ne h (by decide))), (fun h => f14.out (or_ne h (by decide))), (fun h => f15.out (or_ne h (by decide))), (fun h => by obtain ⟨B, x, y, q1, q2, q3, q4⟩ := f16.out (or_ne h (by decide)); exact ⟨B, x, y, q1, q2, q3, fun h => q4 (or_ne h (by decide))⟩), (fun h => by obtain ⟨B, x, y, q1, q2, q3, q4⟩ := f17.out (or_ne h (by decide)); exact ⟨B, x, y, q1, q2, q3, fun h => q4 (or_ne h (by decide))⟩), (fun h h' => nE.out (or_ne h (by decide)) (or_ne h' (by decide)))⟩
        · -- 3
          cases ho
          obtain ⟨u14, u15, u23, u24, u25, u26, u27, u28, u29, u30, u31, u32, u33, u34, u35, u36, u37, u38, rfl, hb', f0, f1, f2, f3, f4, f5, f6, f7, f8, f9, f10, f11, f12, f13, f14, f15, f16, f17, nE⟩ := hI
          have e2 := f2.out (D 2 (by kernel_rfl))
          subst e2
          have a0' := below_cell a0 hb'
          have a1' := below_cell a1 hb'
          gi_wp2
          exact ⟨_, _, _, _, _, _, _, _, _, _, _, _, _, _, _, _, _, _, rfl, hb', (fun h => f0.out (or_ne h (by decide))), (fun h => f1.out (or_ne h (by decide))), (fun _ => rfl), (fun _ => rfl), (fun h => f4.out (or_ne h (by decide))), (fun h => f5.out (or_ne h (by decide))), (fun h => f6.out (or_ne h (by decide))), (fun h => f7.out (or_ne h (by decide))), (fun h => f8.out (or_ne h (by decide))), (fun h => f9.out (or_ne h (by decide))), (fun h => f10.out (or_ne h (by decide))), (fun h => f11.out (or_ne h (by decide))), (fun h => f12.out (or_ne h (by decide))), (fun h => f13.out (or_ne h (by decide))), (fun h => f14.out (or_ne h (by decide))), (fun h => f15.out (or_ne h (by decide))), (fun h => by obtain ⟨B, x, y, q1, q2, q3, q4⟩ := f16.out (or_ne h (by decide)); exact ⟨B, x, y, q1, q2, q3, fun h => q4 (or_ne h (by decide))⟩), (fun h => by obtain ⟨B, x, y, q1, q2, q3, q4⟩ := f17.out (or_ne h (by decide)); exact ⟨B, x, y, q1, q2, q3, fun h => q4 (or_ne h (by decide))⟩), (fun h h' => nE.out (or_ne h (by decide)) (or_ne h' (by decide)))⟩
        · -- 4
          cases ho
          obtain ⟨u14, u15, u23, u24, u25, u26, u27, u28, u29, u30, u31, u32, u33, u34, u35, u36, u37, u38, rfl, hb', f0, f1, f2, f3, f4, f5, f6, f7, f8, f9, f10, f11, f12, f13, f14, f15, f16, f17, nE⟩ := hI
          gi_wp2
          exact ⟨_, _, _, _, _, _, _, _, _, _, _, _, _, _, _, _, _, _, rfl, hb', (fun h => f0.out (or_ne h (by decide))), (fun h => f1.out (or_ne h (by decide))), (fun h => f2.out (or_ne h (by decide))), (fun h => f3.out (or_ne h (by decide))), (fun _ => rfl), (fun h => f5.out (or_ne h (by decide))), (fun h => f6.out (or_ne h (by decide))), (fun h => f7.out (or_ne h (by decide))), (fun h => f8.out (or_ne h (by decide))), (fun h => f9.out (or_ne h (by decide))), (fun h => f10.out (or_ne h (by decide))), (fun h => f11.out (or_ne h (by decide))), (fun h => f12.out (or_ne h (by decide))), (fun h => f13.out (or_ne h (by decide))), (fun h => f14.out (or_ne h (by decide))), (fun h => f15.out (or_ne h (by decide))), (fun h => by obtain ⟨B, x, y, q1, q2, q3, q4⟩ := f16.out (or_ne h (by decide)); exact ⟨B, x, y, q1, q2, q3, fun h => q4 (or_ne h (by decide))⟩), (fun h => by obtain ⟨B, x, y, q1, q2, q3, q4⟩ := f17.out (or_ne h (by decide)); exact ⟨B, x, y, q1, q2, q3, fun h => q4 (or_ne h (by decide))⟩), (fun h h' => nE.out (or_ne h (by decide)) (or_ne h' (by decide)))⟩
        · -- 5
          cases ho
          obtain ⟨u14, u15, u23, u24, u25, u26, u27, u28, u29, u30, u31, u32, u33, u34, u35, u36, u37, u38, rfl, hb', f0, f1, f2, f3, f4, f5, f6, f7, f8, f9, f10, f11, f12, f13, f14, f15, f16, f17, nE⟩ := hI
          gi_wp2
          exact ⟨_, _, _, _, _, _, _, _, _, _, _, _, _, _, _, _, _, _, rfl, hb', (fun h => f0.out (or_ne h (by decide))), (fun h => f1.out (or_ne h (by decide))), (fun h => f2.out (or_ne h (by decide))), (fun h => f3.out (or_ne h (by decide))), (fun h => f4.out (or_ne h (by decide))), (fun _ => rfl), (fun h => f6.out (or_ne h (by decide))), (fun h => f7.out (or_ne h (by decide))), (fun h => f8.out (or_ne h (by decide))), (fun h => f9.out (or_ne h (by decide))), (fun h => f10.out (or_ne h (by decide))), (fun h => f11.out (or_ne h (by decide))), (fun h => f12.out (or_ne h (by decide))), (fun h => f13.out (or_ne h (by decide))), (fun h => f14.out (or_ne h (by decide))), (fun h => f15.out (or_ne h (by decide))), (fun h => by obtain ⟨B, x, y, q1, q2, q3, q4⟩ := f16.out (or_ne h (by decide)); exact ⟨B, x, y, q1, q2, q3, fun h => q4 (or_ne h (by decide))⟩), (fun h => by obtain ⟨B, x, y, q1, q2, q3, q4⟩ := f17.out (or_ne h (by decide)); exact ⟨B, x, y, q1, q2, q3, fun h => q4 (or_ne h (by decide))⟩), (fun h h' => nE.out (or_ne h (by decide)) (or_ne h' (by decide)))⟩
        · -- 6
          cases ho
          obtain ⟨u14, u15, u23, u24, u25, u26, u27, u28, u29, u30, u31, u32, u33, u34, u35, u36, u37, u38, rfl, hb', f0, f1, f2, f3, f4, f5, f6, f7, f8, f9, f10, f11, f12, f13, f14, f15, f16, f17, nE⟩ := hI
          have e4 := f4.out (D 4 (by kernel_rfl))
          subst e4
          have e5 := f5.out (D 5 (by kernel_rfl))
          subst e5
          gi_wp2
          exact ⟨_, _, _, _, _, _, _, _, _, _, _, _, _, _, _, _, _, _, rfl, hb', (fun h => f0.out (or_ne h (by decide))), (fun h => f1.out (or_ne h (by decide))), (fun h => f2.out (or_ne h (by decide))), (fun h => f3.out (or_ne h (by decide))), (fun _ => rfl), (fun _ => rfl), (fun _ => rfl), (fun h => f7.out (or_ne h (by decide))), (fun h => f8.out (or_ne h (by decide))), (fun h => f9.out (or_ne h (by decide))), (fun h => f10.out (or_ne h (by decide))), (fun h => f11.out (or_ne h (by decide))), (fun h => f12.out (or_ne h (by decide))), (fun h => f13.out (or_ne h (by decide))), (fun h => f14.out (or_ne h (by decide))), (fun h => f15.out (or_ne h (by decide))), (fun h => by obtain ⟨B, x, y, q1, q2, q3, q4⟩ := f16.out (or_ne h (by decide)); exact ⟨B, x, y, q1, q2, q3, fun h => q4 (or_ne h (by decide))⟩), (fun h => by obtain ⟨B, x, y, q1, q2, q3, q4⟩ := f17.out (or_ne h (by decide)); exact ⟨B, x, y, q1, q2, q3, fun h => q4 (or_ne h (by decide))⟩), (fun h h' => nE.out (or_ne h (by decide)) (or_ne h' (by decide)))⟩
        · -- 7
          cases ho
          obtain ⟨u14, u15, u23, u24, u25, u26, u27, u28, u29, u30, u31, u32, u33, u34, u35, u36, u37, u38, rfl, hb', f0, f1, f2, f3, f4, f5, f6, f7, f8, f9, f10, f11, f12, f13, f14, f15, f16, f17, nE⟩ := hI
          have e6 := f6.out (D 6 (by kernel_rfl))
          subst e6
          have z0' := below_cell z0 hb'
          have z1' := below_cell z1 hb'
          gi_wp2
          exact ⟨_, _, _, _, _, _, _, _, _, _, _, _, _, _, _, _, _, _, rfl, hb', (fun h => f0.out (or_ne h (by decide))), (fun h => f1.out (or_ne h (by decide))), (fun h => f2.out (or_ne h (by decide))), (fun h => f3.out (or_ne h (by decide))), (fun h => f4.out (or_ne h (by decide))), (fun h => f5.out (or_ne h (by decide))), (fun _ => rfl), (fun _ => rfl), (fun h => f8.out (or_ne h (by decide))), (fun h => f9.out (or_ne h (by decide))), (fun h => f10.out (or_ne h (by decide))), (fun h => f11.out (or_ne h (by decide))), (fun h => f12.out (or_ne h (by decide))), (fun h => f13.out (or_ne h (by decide))), (fun h => f14.out (or_ne h (by decide))), (fun h => f15.out (or_ne h (by decide))), (fun h => by obtain ⟨B, x, y, q1, q2, q3, q4⟩ := f16.out (or_ne h (by decide)); exact ⟨B, x, y, q1, q2, q3, fun h => q4 (or_ne h (by decide))⟩), (fun h => by obtain ⟨B, x, y, q1, q2, q3, q4⟩ := f17.out (or_ne h (by decide)); exact ⟨B, x, y, q1, q2, q3, fun h => q4 (or_ne h (by decide))⟩), (fun h h' => nE.out (or_ne h (by decide)) (or_ne h' (by decide)))⟩
        · -- 8
          cases ho
          obtain ⟨u14, u15, u23, u24, u25, u26, u27, u28, u29, u30, u31, u32, u33, u34, u35, u36, u37, u38, rfl, hb', f0, f1, f2, f3, f4, f5, f6, f7, f8, f9, f10, f11, f12, f13, f14, f15, f16, f17, nE⟩ := hI
          gi_wp2
          exact ⟨_, _, _, _, _, _, _, _, _, _, _, _, _, _, _, _, _, _, rfl, hb', (fun h => f0.out (or_ne h (by decide))), (fun h => f1.out (or_ne h (by decide))), (fun h => f2.out (or_ne h (by decide))), (fun h => f3.out (or_ne h (by decide))), (fun h => f4.out (or_ne h (by decide))), (fun h => f5.out (or_ne h (by decide))), (fun h => f6.out (or_ne h (by decide))), (fun h => f7.out (or_ne h (by decide))), (fun _ => rfl), (fun h => f9.out (or_ne h (by decide))), (fun h => f10.out (or_ne h (by decide))), (fun h => f11.out (or_ne h (by decide))), (fun h => f12.out (or_ne h (by decide))), (fun h => f13.out (or_ne h (by decide))), (fun h => f14.out (or_ne h (by decide))), (fun h => f15.out (or_ne h (by decide))), (fun h => by obtain ⟨B, x, y, q1, q2, q3, q4⟩ := f16.out (or_ne h (by decide)); exact ⟨B, x, y, q1, q2, q3, fun h => q4 (or_ne h (by decide))⟩), (fun h => by obtain ⟨B, x, y, q1, q2, q3, q4⟩ := f17.out (or_ne h (by decide)); exact ⟨B, x, y, q1, q2, q3, fun h => q4 (or_ne h (by decide))⟩), (fun h h' => nE.out (or_ne h (by decide)) (or_ne h' (by decide)))⟩
        · -- 9
          cases ho
          obtain ⟨u14, u15, u23, u24, u25, u26, u27, u28, u29, u30, u31, u32, u33, u34, u35, u36, u37, u38, rfl, hb', f0, f1, f2, f3, f4, f5, f6, f7, f8, f9, f10, f11, f12, f13, f14, f15, f16, f17, nE⟩ := hI
          gi_wp2
          exact ⟨_, _, _, _, _, _, _, _, _, _, _, _, _, _, _, _, _, _, rfl, hb', (fun h => f0.out (or_ne h (by decide))), (fun h => f1.out (or_ne h (by decide))), (fun h => f2.out (or_ne h (by decide))), (fun h => f3.out (or_ne h (by decide))), (fun h => f4.out (or_ne h (by decide))), (fun h => f5.out (or_ne h (by decide))), (fun h => f6.out (or_ne h (by decide))), (fun h => f7.out (or_ne h (by decide))), (fun h => f8.out (or_ne h (by decide))), (fun _ => rfl), (fun h => f10.out (or_ne h (by decide))), (fun h => f11.out (or_ne h (by decide))), (fun h => f12.out (or_ne h (by decide))), (fun h => f13.out (or_ne h (by decide))), (fun h => f14.out (or_ne h (by decide))), (fun h => f15.out (or_ne h (by decide))), (fun h => by obtain ⟨B, x, y, q1, q2, q3, q4⟩ := f16.out (or_ne h (by decide)); exact ⟨B, x, y, q1, q2, q3, fun h => q4 (or_ne h (by decide))⟩), (fun h => by obtain ⟨B, x, y, q1, q2, q3, q4⟩ := f17.out (or_ne h (by decide)); exact ⟨B, x, y, q1, q2, q3, fun h => q4 (or_ne h (by decide))⟩), (fun h h' => nE.out (or_ne h (by decide)) (or_ne h' (by decide)))⟩
        · -- 10
          cases ho
          obtain ⟨u14, u15, u23, u24, u25, u26, u27, u28, u29, u30, u31, u32, u33, u34, u35, u36, u37, u38, rfl, hb', f0, f1, f2, f3, f4, f5, f6, f7, f8, f9, f10, f11, f12, f13, f14, f15, f16, f17, nE⟩ := hI
          have e8 := f8.out (D 8 (by kernel_rfl))
          subst e8
          have e9 := f9.out (D 9 (by kernel_rfl))
          subst e9
          gi_wp2
          exact ⟨_, _, _, _, _, _, _, _, _, _, _, _, _, _, _, _, _, _, rfl, hb', (fun h => f0.out (or_ne h (by decide))), (fun h => f1.out (or_ne h (by decide))), (fun h => f2.out (or_ne h (by decide))), (fun h => f3.out (or_ne h (by decide))), (fun h => f4.out (or_ne h (by decide))), (fun h => f5.out (or_ne h (by decide))), (fun h => f6.out (or_ne h (by decide))), (fun h => f7.out (or_ne h (by decide))), (fun _ => rfl), (fun _ => rfl), (fun _ => rfl), (fun h => f11.out (or_ne h (by decide))), (fun h => f12.out (or_ne h (by decide))), (fun h => f13.out (or_ne h (by decide))), (fun h => f14.out (or_ne h (by decide))), (fun h => f15.out (or_ne h (by decide))), (fun h => by obtain ⟨B, x, y, q1, q2, q3, q4⟩ := f16.out (or_ne h (by decide)); exact ⟨B, x, y, q1, q2, q3, fun h => q4 (or_ne h (by decide))⟩), (fun h => by obtain ⟨B, x, y, q1, q2, q3, q4⟩ := f17.out (or_ne h (by decide)); exact ⟨B, x, y, q1, q2, q3, fun h => q4 (or_ne h (by decide))⟩), (fun h h' => nE.out (or_ne h (by decide)) (or_ne h' (by decide)))⟩
        · -- 11
          cases ho
          obtain ⟨u14, u15, u23, u24, u25, u26, u27, u28, u29, u30, u31, u32, u33, u34, u35, u36, u37, u38, rfl, hb', f0, f1, f2, f3, f4, f5, f6, f7, f8, f9, f10, f11, f12, f13, f14, f15, f16, f17, nE⟩ := hI
          have e10 := f10.out (D 10 (by kernel_rfl))
          subst e10
          have p0' := below_cell p0 hb'
          have p1' := below_cell p1 hb'
          gi_wp2
          exact ⟨_, _, _, _, _, _, _, _, _, _, _, _, _, _, _, _, _, _, rfl, hb', (fun h => f0.out (or_ne h (by decide))), (fun h => f1.out (or_ne h (by decide))), (fun h => f2.out (or_ne h (by decide))), (fun h => f3.out (or_ne h (by decide))), (fun h => f4.out (or_ne h (by decide))), (fun h => f5.out (or_ne h (by decide))), (fun h => f6.out (or_ne h (by decide))), (fun h => f7.out (or_ne h (by decide))), (fun h => f8.out (or_ne h (by decide))), (fun h => f9.out (or_ne h (by decide))), (fun _ => rfl), (fun _ => rfl), (fun h => f12.out (or_ne h (by decide))), (fun h => f13.out (or_ne h (by decide))), (fun h => f14.out (or_ne h (by decide))), (fun h => f15.out (or_ne h (by decide))), (fun h => by obtain ⟨B, x, y, q1, q2, q3, q4⟩ := f16.out (or_ne h (by decide)); exact ⟨B, x, y, q1, q2, q3, fun h => q4 (or_ne h (by decide))⟩), (fun h => by obtain ⟨B, x, y, q1, q2, q3, q4⟩ := f17.out (or_ne h (by decide)); exact ⟨B, x, y, q1, q2, q3, fun h => q4 (or_ne h (by decide))⟩), (fun h h' => nE.out (or_ne h (by decide)) (or_ne h' (by decide)))⟩
        · -- 12
          cases ho
          obtain ⟨u14, u15, u23, u24, u25, u26, u27, u28, u29, u30, u31, u32, u33, u34, u35, u36, u37, u38, rfl, hb', f0, f1, f2, f3, f4, f5, f6, f7, f8, f9, f10, f11, f12, f13, f14, f15, f16, f17, nE⟩ := hI
          have e3 := f3.out (D 3 (by kernel_rfl))
          subst e3
          have e7 := f7.out (D 7 (by kernel_rfl))
          subst e7
          have e11 := f11.out (D 11 (by kernel_rfl))
          subst e11
          gi_wp2_with (refine (callsIn_wide.2 (RO.out _)).mono ?_; rintro e w1 ⟨v1, v2, rfl, nx, ny, h1⟩)
          exact ⟨_, _, _, _, _, _, _, _, _, _, _, _, _, _, _, _, _, _, rfl, (hb'.trans (h1.mono hb'.size)), (fun h => f0.out (or_ne h (by decide))), (fun h => f1.out (or_ne h (by decide))), (fun h => f2.out (or_ne h (by decide))), (fun _ => rfl), (fun h => f4.out (or_ne h (by decide))), (fun h => f5.out (or_ne h (by decide))), (fun h => f6.out (or_ne h (by decide))), (fun _ => rfl), (fun h => f8.out (or_ne h (by decide))), (fun h => f9.out (or_ne h (by decide))), (fun h => f10.out (or_ne h (by decide))), (fun _ => rfl), (fun _ => ⟨_, _, rfl, nx, ny⟩), (fun h => by obtain ⟨x, y, e, q1, q2⟩ := f13.out (or_ne h (by decide)); exact ⟨x, y, e, q1.mono h1, q2.mono h1⟩), (fun h => (f14.out (or_ne h (by decide))).mono h1), (fun h => (f15.out (or_ne h (by decide))).mono h1), (fun h => by obtain ⟨B, x, y, q1, q2, q3, q4⟩ := f16.out (or_ne h (by decide)); exact ⟨B, x, y, q1, q2, q3.mono h1 q3.lt, fun h => (q4 (or_ne h (by decide))).mono h1⟩), (fun h => by obtain ⟨B, x, y, q1, q2, q3, q4⟩ := f17.out (or_ne h (by decide)); exact ⟨B, x, y, q1, q2, q3.mono h1 q3.lt, fun h => (q4 (or_ne h (by decide))).mono h1⟩), (fun h h' => nE.out (or_ne h (by decide)) (or_ne h' (by decide)))⟩
        · -- 13
          cases ho
          obtain ⟨u14, u15, u23, u24, u25, u26, u27, u28, u29, u30, u31, u32, u33, u34, u35, u36, u37, u38, rfl, hb', f0, f1, f2, f3, f4, f5, f6, f7, f8, f9, f10, f11, f12, f13, f14, f15, f16, f17, nE⟩ := hI
          obtain ⟨x12, y12, e12, nx, ny⟩ := f12.out (D 12 (by kernel_rfl))
          subst e12
          replace nx := hid0 nx
          replace ny := hid0 ny
          gi_wp2
          exact ⟨_, _, _, _, _, _, _, _, _, _, _, _, _, _, _, _, _, _, rfl, hb', (fun h => f0.out (or_ne h (by decide))), (fun h => f1.out (or_ne h (by decide))), (fun h => f2.out (or_ne h (by decide))), (fun h => f3.out (or_ne h (by decide))), (fun h => f4.out (or_ne h (by decide))), (fun h => f5.out (or_ne h (by decide))), (fun h => f6.out (or_ne h (by decide))), (fun h => f7.out (or_ne h (by decide))), (fun h => f8.out (or_ne h (by decide))), (fun h => f9.out (or_ne h (by decide))), (fun h => f10.out (or_ne h (by decide))), (fun h => f11.out (or_ne h (by decide))), (fun _ => ⟨_, _, rfl, nx.out, ny.out⟩), (fun _ => ⟨_, _, rfl, nx.out, ny.out⟩), (fun h => f14.out (or_ne h (by decide))), (fun h => f15.out (or_ne h (by decide))), (fun h => by obtain ⟨B, x, y, q1, q2, q3, q4⟩ := f16.out (or_ne h (by decide)); exact ⟨B, x, y, q1, q2, q3, fun h => q4 (or_ne h (by decide))⟩), (fun h => by obtain ⟨B, x, y, q1, q2, q3, q4⟩ := f17.out (or_ne h (by decide)); exact ⟨B, x, y, q1, q2, q3, fun h => q4 (or_ne h (by decide))⟩), (fun h h' => nE.out (or_ne h (by decide)) (or_ne h' (by decide)))⟩
        · -- 14
          cases ho
          obtain ⟨u14, u15, u23, u24, u25, u26, u27, u28, u29, u30, u31, u32, u33, u34, u35, u36, u37, u38, rfl, hb', f0, f1, f2, f3, f4, f5, f6, f7, f8, f9, f10, f11, f12, f13, f14, f15, f16, f17, nE⟩ := hI
          obtain ⟨x13, y13, e13, nx, ny⟩ := f13.out (D 13 (by kernel_rfl))
          subst e13
          replace nx := hid0 nx
          replace ny := hid0 ny
          gi_wp2
          exact ⟨_, _, _, _, _, _, _, _, _, _, _, _, _, _, _, _, _, _, rfl, hb', (fun h => f0.out (or_ne h (by decide))), (fun h => f1.out (or_ne h (by decide))), (fun h => f2.out (or_ne h (by decide))), (fun h => f3.out (or_ne h (by decide))), (fun h => f4.out (or_ne h (by decide))), (fun h => f5.out (or_ne h (by decide))), (fun h => f6.out (or_ne h (by decide))), (fun h => f7.out (or_ne h (by decide))), (fun h => f8.out (or_ne h (by decide))), (fun h => f9.out (or_ne h (by decide))), (fun h => f10.out (or_ne h (by decide))), (fun h => f11.out (or_ne h (by decide))), (fun h => f12.out (or_ne h (by decide))), (fun _ => ⟨_, _, rfl, nx.out, ny.out⟩), (fun _ => nx.out), (fun h => f15.out (or_ne h (by decide))), (fun h => by obtain ⟨B, x, y, q1, q2, q3, q4⟩ := f16.out (or_ne h (by decide)); exact ⟨B, x, y, q1, q2, q3, fun h => q4 (or_ne h (by decide))⟩), (fun h => by obtain ⟨B, x, y, q1, q2, q3, q4⟩ := f17.out (or_ne h (by decide)); exact ⟨B, x, y, q1, q2, q3, fun h => q4 (or_ne h (by decide))⟩), (fun h h' => nE.out (or_ne h (by decide)) (or_ne h' (by decide)))⟩
        · -- 15
          cases ho
          obtain ⟨u14, u15, u23, u24, u25, u26, u27, u28, u29, u30, u31, u32, u33, u34, u35, u36, u37, u38, rfl, hb', f0, f1, f2, f3, f4, f5, f6, f7, f8, f9, f10, f11, f12, f13, f14, f15, f16, f17, nE⟩ := hI
          obtain ⟨x13, y13, e13, nx, ny⟩ := f13.out (D 13 (by kernel_rfl))
          subst e13
          replace nx := hid0 nx
          replace ny := hid0 ny
          gi_wp2
          exact ⟨_, _, _, _, _, _, _, _, _, _, _, _, _, _, _, _, _, _, rfl, hb', (fun h => f0.out (or_ne h (by decide))), (fun h => f1.out (or_ne h (by decide))), (fun h => f2.out (or_ne h (by decide))), (fun h => f3.out (or_ne h (by decide))), (fun h => f4.out (or_ne h (by decide))), (fun h => f5.out (or_ne h (by decide))), (fun h => f6.out (or_ne h (by decide))), (fun h => f7.out (or_ne h (by decide))), (fun h => f8.out (or_ne h (by decide))), (fun h => f9.out (or_ne h (by decide))), (fun h => f10.out (or_ne h (by decide))), (fun h => f11.out (or_ne h (by decide))), (fun h => f12.out (or_ne h (by decide))), (fun _ => ⟨_, _, rfl, nx.out, ny.out⟩), (fun h => f14.out (or_ne h (by decide))), (fun _ => ny.out), (fun h => by obtain ⟨B, x, y, q1, q2, q3, q4⟩ := f16.out (or_ne h (by decide)); exact ⟨B, x, y, q1, q2, q3, fun h => q4 (or_ne h (by decide))⟩), (fun h => by obtain ⟨B, x, y, q1, q2, q3, q4⟩ := f17.out (or_ne h (by decide)); exact ⟨B, x, y, q1, q2, q3, fun h => q4 (or_ne h (by decide))⟩), (fun h h' => nE.out (or_ne h (by decide)) (or_ne h' (by decide)))⟩
        · -- 16
          cases ho
          obtain ⟨u14, u15, u23, u24, u25, u26, u27, u28, u29, u30, u31, u32, u33, u34, u35, u36, u37, u38, rfl, hb', f0, f1, f2, f3, f4, f5, f6, f7, f8, f9, f10, f11, f12, f13, f14, f15, f16, f17, nE⟩ := hI
          gi_wp2
          have h1 := ((Gr.refl wI).alloc (.cells #[.bool false, .slice none 0 0] 53)).below
          exact ⟨_, _, _, _, _, _, _, _, _, _, _, _, _, _, _, _, _, _, rfl, (hb'.trans (h1.mono hb'.size)), (fun h => f0.out (or_ne h (by decide))), (fun h => f1.out (or_ne h (by decide))), (fun h => f2.out (or_ne h (by decide))), (fun h => f3.out (or_ne h (by decide))), (fun h => f4.out (or_ne h (by decide))), (fun h => f5.out (or_ne h (by decide))), (fun h => f6.out (or_ne h (by decide))), (fun h => f7.out (or_ne h (by decide))), (fun h => f8.out (or_ne h (by decide))), (fun h => f9.out (or_ne h (by decide))), (fun h => f10.out (or_ne h (by decide))), (fun h => f11.out (or_ne h (by decide))), (fun h => by obtain ⟨x, y, e, q1, q2⟩ := f12.out (or_ne h (by decide)); exact ⟨x, y, e, q1.mono h1, q2.mono h1⟩), (fun h => by obtain ⟨x, y, e, q1, q2⟩ := f13.out (or_ne h (by decide)); exact ⟨x, y, e, q1.mono h1, q2.mono h1⟩), (fun h => (f14.out (or_ne h (by decide))).mono h1), (fun h => (f15.out (or_ne h (by decide))).mono h1), (fun _ => ⟨wI.heap.size, _, _, rfl, hb'.size, Bk.new wI _ _, fun h => absurd (hdn 18 _ rfl (or_ne h (by decide)) 16 (by kernel_rfl)) hnd⟩), (fun h => by obtain ⟨B, x, y, q1, q2, q3, q4⟩ := f17.out (or_ne h (by decide)); exact ⟨B, x, y, q1, q2, q3.mono h1 q3.lt, fun h => (q4 (or_ne h (by decide))).mono h1⟩), (fun _ h => by obtain ⟨B, x, y, q1, q2, q3, q4⟩ := f17.out (or_ne h (by decide)); rw [q1]; intro e; have := q3.lt; cases e; omega)⟩
        · -- 17
          cases ho
          obtain ⟨u14, u15, u23, u24, u25, u26, u27, u28, u29, u30, u31, u32, u33, u34, u35, u36, u37, u38, rfl, hb', f0, f1, f2, f3, f4, f5, f6, f7, f8, f9, f10, f11, f12, f13, f14, f15, f16, f17, nE⟩ := hI
          gi_wp2
          have h1 := ((Gr.refl wI).alloc (.cells #[.bool false, .slice none 0 0] 53)).below
          exact ⟨_, _, _, _, _, _, _, _, _, _, _, _, _, _, _, _, _, _, rfl, (hb'.trans (h1.mono hb'.size)), (fun h => f0.out (or_ne h (by decide))), (fun h => f1.out (or_ne h (by decide))), (fun h => f2.out (or_ne h (by decide))), (fun h => f3.out (or_ne h (by decide))), (fun h => f4.out (or_ne h (by decide))), (fun h => f5.out (or_ne h (by decide))), (fun h => f6.out (or_ne h (by decide))), (fun h => f7.out (or_ne h (by decide))), (fun h => f8.out (or_ne h (by decide))), (fun h => f9.out (or_ne h (by decide))), (fun h => f10.out (or_ne h (by decide))), (fun h => f11.out (or_ne h (by decide))), (fun h => by obtain ⟨x, y, e, q1, q2⟩ := f12.out (or_ne h (by decide)); exact ⟨x, y, e, q1.mono h1, q2.mono h1⟩), (fun h => by obtain ⟨x, y, e, q1, q2⟩ := f13.out (or_ne h (by decide)); exact ⟨x, y, e, q1.mono h1, q2.mono h1⟩), (fun h => (f14.out (or_ne h (by decide))).mono h1), (fun h => (f15.out (or_ne h (by decide))).mono h1), (fun h => by obtain ⟨B, x, y, q1, q2, q3, q4⟩ := f16.out (or_ne h (by decide)); exact ⟨B, x, y, q1, q2, q3.mono h1 q3.lt, fun h => (q4 (or_ne h (by decide))).mono h1⟩), (fun _ => ⟨wI.heap.size, _, _, rfl, hb'.size, Bk.new wI _ _, fun h => absurd (hdn 19 _ rfl (or_ne h (by decide)) 17 (by kernel_rfl)) hnd⟩), (fun h _ => by obtain ⟨B, x, y, q1, q2, q3, q4⟩ := f16.out (or_ne h (by decide)); rw [q1]; intro e; have := q3.lt; cases e; omega)⟩
        · -- 18
          cases ho
          obtain ⟨u14, u15, u23, u24, u25, u26, u27, u28, u29, u30, u31, u32, u33, u34, u35, u36, u37, u38, rfl, hb', f0, f1, f2, f3, f4, f5, f6, f7, f8, f9, f10, f11, f12, f13, f14, f15, f16, f17, nE⟩ := hI
          have e14 := f14.out (D 14 (by kernel_rfl))
          obtain ⟨r, o, l, c, rfl, eN⟩ := e14.shape
          clear e14
          obtain ⟨B, x, y, eB, hB, kM, cM⟩ := f16.out (D 16 (by kernel_rfl))
          subst eB
          clear cM
          have q0 := kM.c0
          have q1 := kM.c1
          have q2 := kM.f0
          have q3 := kM.f1
          obtain ⟨B', x', y', eB', hB', k', c'⟩ := f17.out (D 17 (by kernel_rfl))
          subst eB'
          have hne : B' ≠ B := fun e => nE.out (D 16 (by kernel_rfl)) (D 17 (by kernel_rfl)) (by rw [e])
          replace c' := hid0 c'
          gi_wp2
          exact ⟨_, _, _, _, _, _, _, _, _, _, _, _, _, _, _, _, _, _, rfl, ((hb'.setCell (p := ⟨B, 0, none⟩) hB (.bool r)).setCell (p := ⟨B, 1, none⟩) hB (.slice o l c)), (fun h => f0.out (or_ne h (by decide))), (fun h => f1.out (or_ne h (by decide))), (fun h => f2.out (or_ne h (by decide))), (fun h => f3.out (or_ne h (by decide))), (fun h => f4.out (or_ne h (by decide))), (fun h => f5.out (or_ne h (by decide))), (fun h => f6.out (or_ne h (by decide))), (fun h => f7.out (or_ne h (by decide))), (fun h => f8.out (or_ne h (by decide))), (fun h => f9.out (or_ne h (by decide))), (fun h => f10.out (or_ne h (by decide))), (fun h => f11.out (or_ne h (by decide))), (fun h => by obtain ⟨x, y, e, q1, q2⟩ := f12.out (or_ne h (by decide)); exact ⟨x, y, e, ((q1.setBk kM _).setBk (kM.set0 _) _), ((q2.setBk kM _).setBk (kM.set0 _) _)⟩), (fun h => by obtain ⟨x, y, e, q1, q2⟩ := f13.out (or_ne h (by decide)); exact ⟨x, y, e, ((q1.setBk kM _).setBk (kM.set0 _) _), ((q2.setBk kM _).setBk (kM.set0 _) _)⟩), (fun _ => ((eN.out.setBk kM _).setBk (kM.set0 _) _)), (fun h => (((f15.out (or_ne h (by decide))).setBk kM _).setBk (kM.set0 _) _)), (fun _ => ⟨B, _, _, rfl, hB, (kM.set0 _).set1 _, fun _ => ((eN.out.setBk kM _).setBk (kM.set0 _) _)⟩), (fun _ => ⟨B', _, _, rfl, hB', (k'.other (p := ⟨B, 0, none⟩) hne _).other (p := ⟨B, 1, none⟩) hne _, fun h => (((c'.out (or_ne h (by decide))).setBk kM _).setBk (kM.set0 _) _)⟩), (fun h h' => nE.out (or_ne h (by decide)) (or_ne h' (by decide)))⟩
        · -- 19
          cases ho
          obtain ⟨u14, u15, u23, u24, u25, u26, u27, u28, u29, u30, u31, u32, u33, u34, u35, u36, u37, u38, rfl, hb', f0, f1, f2, f3, f4, f5, f6, f7, f8, f9, f10, f11, f12, f13, f14, f15, f16, f17, nE⟩ := hI
          have e15 := f15.out (D 15 (by kernel_rfl))
          obtain ⟨r, o, l, c, rfl, eN⟩ := e15.shape
          clear e15
          obtain ⟨B, x, y, eB, hB, kM, cM⟩ := f17.out (D 17 (by kernel_rfl))
          subst eB
          clear cM
          have q0 := kM.c0
          have q1 := kM.c1
          have q2 := kM.f0
          have q3 := kM.f1
          obtain ⟨B', x', y', eB', hB', k', c'⟩ := f16.out (D 16 (by kernel_rfl))
          subst eB'
          have hne : B' ≠ B := fun e => nE.out (D 16 (by kernel_rfl)) (D 17 (by kernel_rfl)) (by rw [e])
          replace c' := hid0 c'
          gi_wp2
          exact ⟨_, _, _, _, _, _, _, _, _, _, _, _, _, _, _, _, _, _, rfl, ((hb'.setCell (p := ⟨B, 0, none⟩) hB (.bool r)).setCell (p := ⟨B, 1, none⟩) hB (.slice o l c)), (fun h => f0.out (or_ne h (by decide))), (fun h => f1.out (or_ne h (by decide))), (fun h => f2.out (or_ne h (by decide))), (fun h => f3.out (or_ne h (by decide))), (fun h => f4.out (or_ne h (by decide))), (fun h => f5.out (or_ne h (by decide))), (fun h => f6.out (or_ne h (by decide))), (fun h => f7.out (or_ne h (by decide))), (fun h => f8.out (or_ne h (by decide))), (fun h => f9.out (or_ne h (by decide))), (fun h => f10.out (or_ne h (by decide))), (fun h => f11.out (or_ne h (by decide))), (fun h => by obtain ⟨x, y, e, q1, q2⟩ := f12.out (or_ne h (by decide)); exact ⟨x, y, e, ((q1.setBk kM _).setBk (kM.set0 _) _), ((q2.setBk kM _).setBk (kM.set0 _) _)⟩), (fun h => by obtain ⟨x, y, e, q1, q2⟩ := f13.out (or_ne h (by decide)); exact ⟨x, y, e, ((q1.setBk kM _).setBk (kM.set0 _) _), ((q2.setBk kM _).setBk (kM.set0 _) _)⟩), (fun h => (((f14.out (or_ne h (by decide))).setBk kM _).setBk (kM.set0 _) _)), (fun _ => ((eN.out.setBk kM _).setBk (kM.set0 _) _)), (fun _ => ⟨B', _, _, rfl, hB', (k'.other (p := ⟨B, 0, none⟩) hne _).other (p := ⟨B, 1, none⟩) hne _, fun h => (((c'.out (or_ne h (by decide))).setBk kM _).setBk (kM.set0 _) _)⟩), (fun _ => ⟨B, _, _, rfl, hB, (kM.set0 _).set1 _, fun _ => ((eN.out.setBk kM _).setBk (kM.set0 _) _)⟩), (fun h h' => nE.out (or_ne h (by decide)) (or_ne h' (by decide)))⟩
      case hend =>
        intro d' a' w' hall hI
        obtain ⟨u14, u15, u23, u24, u25, u26, u27, u28, u29, u30, u31, u32, u33, u34, u35, u36, u37, u38, rfl, hb', f0, f1, f2, f3, f4, f5, f6, f7, f8, f9, f10, f11, f12, f13, f14, f15, f16, f17, nE⟩ := hI
        simp only [List.length_cons, List.length_nil] at hall
        obtain ⟨B4, x4, y4, rfl, hB4, k4, c4⟩ := f16.out (hall 16 (by decide))
        obtain ⟨B5, x5, y5, rfl, hB5, k5, c5⟩ := f17.out (hall 17 (by decide))
        have m4 := c4 (hall 18 (by decide))
        have m5 := c5 (hall 19 (by decide))
        clear hall nE c4 c5 f0 f1 f2 f3 f4 f5 f6 f7 f8 f9 f10 f11 f12 f13 f14 f15 f16 f17
        replace hb := hb.trans (hb'.mono hb.size)
        obtain ⟨x1, y1, x2, y2, K11, K12, HNm⟩ := HB.out
        replace K11 := hid0 (K11.mono hb' K11.lt)
        replace K12 := hid0 (K12.mono hb' K12.lt)
        have HNm' : Hid (0 < m → Nm w' (.agg #[x1, y1]) N0 ∧ Nm w' (.agg #[x2, y2]) M0) := fun h => ⟨(HNm h).1.mono hb', (HNm h).2.mono hb'⟩
        have ne1 : b11 < B4 ∧ b11 < B5 ∧ b12 < B4 ∧ b12 < B5 := by
          obtain ⟨_, _, _, _, q1, q2, _⟩ := HB.out
          have := q1.lt
          have := q2.lt
          omega
        clear HNm HB hb' RO a0 a1 z0 z1 p0 p1
        obtain ⟨r4, o4, l4, c4, e, m4'⟩ := m4.shape
        cases e
        obtain ⟨r5, o5, l5, c5, e, m5'⟩ := m5.shape
        cases e
        clear m4 m5
        have q40 := k4.c0
        have q41 := k4.c1
        have q50 := k5.c0
        have q51 := k5.c1
        obtain ⟨UPD, hU⟩ : ∃ UPD : Bool, UPD = decide (m = 0 ∨ offL L (bst L m) < offL L (m + 1)) := ⟨_, rfl⟩
        replace hU := hid0 hU
        go_upto_region 6 with fail
        go_cut [48] (fun v wz => v = .bool UPD ∧ Hid (Below w'.heap.size w' wz))
        case first =>
          clear HE HO BY BN HC HP LG
          by_cases hm0 : m = 0
          · have e1 : at' = -1 := by rw [← HAT.out]; unfold atI; rw [if_pos hm0]
            have e2 : UPD = true := by rw [hU.out]; exact decide_eq_true (Or.inl hm0)
            subst e1
            clear hU HAT DEC SO HNm'
            go_wp2
            go_meet
            case rel => exact ⟨by rw [e2], Below.refl _ _⟩
          · have e1 : ¬ at' < 0 := by rw [← HAT.out]; unfold atI; rw [if_neg hm0]; omega
            obtain ⟨n1, n2⟩ := HNm'.out (by omega)
            obtain ⟨r6, o6, l6, c6, e, n1'⟩ := n1.shape
            cases e
            obtain ⟨r7, o7, l7, c7, e, n2'⟩ := n2.shape
            cases e
            have q60 := K11.out.c0
            have q61 := K11.out.c1
            have q70 := K12.out.c0
            have q71 := K12.out.c1
            have e2 : decide (cmpI (N * M0) (N0 * M) > 0) = UPD := by
              rw [DEC.out (by omega), hU.out, decide_eq_decide]
              constructor
              · exact Or.inr
              · rintro (h | h)
                · omega
                · exact h
            replace e2 := hid0 e2
            have CM := hid0 (rfcmp_any _ _ _ _ N M N0 M0 w' m4'.out m5'.out n1'.out n2'.out SM.out.1 SM.out.2 (SO.out (by omega)).1 (SO.out (by omega)).2)
            clear hU HAT DEC SO HNm' n1 n2 n1' n2' hm0 m4' m5'
            generalize cmpI (N * M0) (N0 * M) = cc at *
            go_wp2_with (go_at_call 79; refine CM.out.mono ?_; rintro e wz ⟨rfl, gz⟩)
            go_meet
            case rel => exact ⟨congrArg Value.bool e2.out, gz⟩
        obtain ⟨rfl, hcut⟩ := hcut
        replace hcut := hcut.out
        replace k4 := hid0 (k4.mono hcut k4.lt)
        replace k5 := hid0 (k5.mono hcut k5.lt)
        replace m4' := hid0 (m4'.out.mono hcut)
        replace m5' := hid0 (m5'.out.mono hcut)
        replace K11 := hid0 (K11.out.mono hcut K11.out.lt)
        replace K12 := hid0 (K12.out.mono hcut K12.out.lt)
        have HNm2 : Hid (0 < m → Nm wc (.agg #[x1, y1]) N0 ∧ Nm wc (.agg #[x2, y2]) M0) := fun h => ⟨(HNm'.out h).1.mono hcut, (HNm'.out h).2.mono hcut⟩
        replace hb := hb.trans (hcut.mono hb.size)
        clear hcut HNm' q40 q41 q50 q51 DEC SO SM
        cases UPD with
        | true =>
          have eb := BY.out (of_decide_eq_true hU.out.symm)
          have q40 := k4.out.c0
          have q41 := k4.out.c1
          have t0 := K11.out.c0
          have t1 := K11.out.c1
          have t2 := K11.out.f0
          have t3 := K11.out.f1
          clear BY BN HO hU HNm2
          go_upto_region 9 with fail
          have K11' := hid0 ((K11.out.set0 (.bool r4)).set1 (.slice o4 l4 c4))
          have K12' := hid0 ((K12.out.other (p := ⟨b11, 0, none⟩) (show b12 ≠ b11 from lb.1.symm) (.bool r4)).other (p := ⟨b11, 1, none⟩) (show b12 ≠ b11 from lb.1.symm) (.slice o4 l4 c4))
          have k5' := hid0 ((k5.out.other (p := ⟨b11, 0, none⟩) (show B5 ≠ b11 by omega) (.bool r4)).other (p := ⟨b11, 1, none⟩) (show B5 ≠ b11 by omega) (.slice o4 l4 c4))
          have m4a := hid0 ((m4'.out.setBk K11.out (o := 0) (.bool r4)).setBk (K11.out.set0 (.bool r4)) (o := 1) (.slice o4 l4 c4))
          have m5a := hid0 ((m5'.out.setBk K11.out (o := 0) (.bool r4)).setBk (K11.out.set0 (.bool r4)) (o := 1) (.slice o4 l4 c4))
          have hb2 := (hb.setCell (p := ⟨b11, 0, none⟩) lb.2.1 (.bool r4)).setCell (p := ⟨b11, 1, none⟩) lb.2.1 (.slice o4 l4 c4)
          clear q40 q41 t0 t1 t2 t3 K11 K12 k5 k4 m4' m5' hb
          generalize (wc.setCell ⟨b11, 0, none⟩ (.bool r4)).setCell ⟨b11, 1, none⟩ (.slice o4 l4 c4) = W7 at *
          have q50 := k5'.out.c0
          have q51 := k5'.out.c1
          have t0 := K12'.out.c0
          have t1 := K12'.out.c1
          have t2 := K12'.out.f0
          have t3 := K12'.out.f1
          have K12'' := hid0 ((K12'.out.set0 (.bool r5)).set1 (.slice o5 l5 c5))
          have K11'' := hid0 ((K11'.out.other (p := ⟨b12, 0, none⟩) lb.1 (.bool r5)).other (p := ⟨b12, 1, none⟩) lb.1 (.slice o5 l5 c5))
          have m4b := hid0 ((m4a.out.setBk K12'.out (o := 0) (.bool r5)).setBk (K12'.out.set0 (.bool r5)) (o := 1) (.slice o5 l5 c5))
          have m5b := hid0 ((m5a.out.setBk K12'.out (o := 0) (.bool r5)).setBk (K12'.out.set0 (.bool r5)) (o := 1) (.slice o5 l5 c5))
          have hb3 := (hb2.setCell (p := ⟨b12, 0, none⟩) lb.2.2 (.bool r5)).setCell (p := ⟨b12, 1, none⟩) lb.2.2 (.slice o5 l5 c5)
          go_wp2
          go_roundw
          case rel =>
            have hkk := HK.out
            refine ⟨m + 1, by omega, ?_, ?_, ⟨_, _, _, _, K11''.out, K12''.out, fun _ => HE.out _ _ _ _ _ eb m4b.out m5b.out⟩, hb3⟩
            · rw [show i + 1 + (m + 1) = k + 1 by omega]; go_num
            · unfold atI
              rw [if_neg (by omega), eb, show i + (m + 1) = k by omega]
          case measure => have hkk := HK.out; simp [intOf]; omega
        | false =>
          have hno := of_decide_eq_false hU.out.symm
          have eb := BN.out hno
          have hm0 : ¬ m = 0 := fun e => hno (Or.inl e)
          clear BY BN HE hU hno k4 k5 m4' m5'
          go_wp2
          go_roundw
          case rel =>
            have hkk := HK.out
            refine ⟨m + 1, by omega, ?_, ?_, ⟨_, _, _, _, K11.out, K12.out, fun _ => HO.out _ _ _ _ _ eb (HNm2.out (by omega)).1 (HNm2.out (by omega)).2⟩, hb⟩
            · rw [show i + 1 + (m + 1) = k + 1 by omega]; go_num
            · unfold atI
              rw [if_neg (by omega), eb, ← HAT.out]
              unfold atI
              rw [if_neg hm0]
          case measure => have hkk := HK.out; simp [intOf]; omega
    · have hlt' : ¬ (k : Int) < (j : Int) := by omega
      have hgw := lt_of_block HC.out
      have hbg' : Below g w wr := hb.mono (Nat.le_of_lt hgw)
      replace HC := hid0 (HC.out.bl hb)
      clear HB
      by_cases hm0 : m = 0
      · have e1 : atI L i m = -1 := by unfold atI; rw [if_pos hm0]
        have eR : RES = [] := TN.out (by rw [CF.out (by omega)]; omega)
        rw [e1]
        clear TY TN CB CF IH OQ SG BQ
        go_upto_region 10 with fail
        refine wp_region_quiet_below (by kernel_rfl) (by kernel_rfl) ?_
        repeat (go_big_quiet_step (fail))
        refine wpQuiet_nil ?_
        rintro _ ⟨⟨dq, osq⟩, rfl⟩
        have hc := below_regrown wr dq osq
        replace HC := hid0 (HC.out.bl hc)
        have hb9 := hbg'.trans (hc.mono (Nat.le_trans (Nat.le_of_lt hgw) hb.size))
        clear hc
        generalize grow (redrawn wr dq) osq = W4 at *
        go_wp2
        go_returns
        exact ⟨rfl, C, HC.out, by first | exact Marks.none C | (rw [eR]; exact Marks.none C), hb9⟩
      · obtain ⟨bq1, bq2, bq3⟩ := BQ.out m (by omega) (by omega)
        obtain ⟨ap, hap⟩ : ∃ ap, i + bst L m = ap := ⟨_, rfl⟩
        have e1 : atI L i m = ((ap : Nat) : Int) := by unfold atI; rw [if_neg hm0, hap]
        have emj : j - i - 1 = m := by omega
        have CB2 : CQ = if witB (V.getD i (0, 0)) (V.getD j (0, 0)) (V.getD ap (0, 0)) tol = true then 0 else bst L m := by
          have := CB.out (by omega)
          rw [emj, hap] at this
          exact this
        rw [hap] at bq1 bq2
        have HAP := hid0 hap
        rw [e1]
        obtain ⟨_, _, e, a0, a1⟩ := (HP.out.mono hb) i (by rw [HN.out]; omega)
        cases e
        obtain ⟨_, _, e, z0, z1⟩ := (HP.out.mono hb) j (by rw [HN.out]; omega)
        cases e
        obtain ⟨_, _, e, p0, p1⟩ := (HP.out.mono hb) ap (by rw [HN.out]; omega)
        cases e
        have RW := hid0 (rwithin_re (V.getD i (0, 0)) (V.getD j (0, 0)) (V.getD ap (0, 0)) tol (LG.out _ (by omega)) (LG.out _ (by omega)) (LG.out _ (by omega)) Ht.out wr)
        have EC := hid0 CB2
        obtain ⟨wt, hwt⟩ : ∃ wt, witB (V.getD i (0, 0)) (V.getD j (0, 0)) (V.getD ap (0, 0)) tol = wt := ⟨_, rfl⟩
        rw [hwt] at RW EC
        obtain ⟨A, hA⟩ : ∃ A, V.getD i (0, 0) = A := ⟨_, rfl⟩
        obtain ⟨Z, hZ⟩ : ∃ Z, V.getD j (0, 0) = Z := ⟨_, rfl⟩
        obtain ⟨q, hq⟩ : ∃ q, V.getD ap (0, 0) = q := ⟨_, rfl⟩
        rw [hA] at a0 a1 RW
        rw [hZ] at z0 z1 RW
        rw [hq] at p0 p1 RW
        clear CB2 hwt hA hZ hq CB CF OQ SG BQ hap e1 bq3
        have y0 := fun d os => cell_regrown p0 d os
        have y1 := fun d os => cell_regrown p1 d os
        have y2 := fun d os => cell_regrown a0 d os
        have y3 := fun d os => cell_regrown a1 d os
        have y4 := fun d os => cell_regrown z0 d os
        have y5 := fun d os => cell_regrown z1 d os
        have hin : i < n := by omega
        have hapn : ap < n := by omega
        have hapd : decide ((ap : Int) < 0) = false := decide_eq_false (by omega)
        go_upto_region 10 with fail
        refine wp_region_quiet_below (by kernel_rfl) (by kernel_rfl) ?_
        repeat (go_big_quiet_step (fail))
        go_big_quiet_step (exact RW.out _ _)
        repeat (go_big_quiet_step (fail))
        refine wpQuiet_nil ?_
        rintro _ ⟨⟨dq, osq⟩, rfl⟩
        have hc := below_regrown wr dq osq
        replace HC := hid0 (HC.out.bl hc)
        replace HP := hid0 ((HP.out.mono hb).mono hc)
        have hb9 := hbg'.trans (hc.mono (Nat.le_trans (Nat.le_of_lt hgw) hb.size))
        clear hc y0 y1 y2 y3 y4 y5 p0 p1 a0 a1 z0 z1 RW hbg' hb
        generalize grow (redrawn wr dq) osq = W4 at *
        cases wt with
        | true =>
          have eR : RES = [] := TN.out (by rw [EC.out, if_pos rfl]; omega)
          clear TY TN IH EC
          go_wp2
          go_returns
          exact ⟨rfl, C, HC.out, by first | exact Marks.none C | (rw [eR]; exact Marks.none C), hb9⟩
        | false =>
          have eC : CQ = bst L m := by rw [EC.out, if_neg (by simp)]
          have eR : RES = thinP V tol i ap ++ ap :: thinP V tol ap j := by
            have := TY.out (by rw [eC]; have := HAP.out; omega)
            rw [eC, HAP.out] at this
            exact this
          replace eR := hid0 eR
          clear TY TN EC eC
          have ck := BR.at HC.out (i := ap) (by rw [hCl]; exact hapn)
          have fk := Hs.froz HC.out ap
          have B2 := hid0 (BR.set HC.out ap true)
          have M1 := hid0 (Marks.one (C := C) (q := ap) (by rw [hCl]; exact hapn))
          have hb8 := hb9.setCell (p := ⟨g, ap, none⟩) (Nat.le_refl g) (.bool true)
          have P8 : Hid (Pts (W4.setCell ⟨g, ap, none⟩ (.bool true)) (some ⟨b, off, none⟩) V) := fun x hx => by
            obtain ⟨b', o', e, h1, h2⟩ := HP.out x hx
            cases e
            exact ⟨b, off, rfl, (World.cell?_setCell_far _ _ _ _ (by simp only []; omega)).trans h1, (World.cell?_setCell_far _ _ _ _ (by simp only []; omega)).trans h2⟩
          go_upto_region 12 with fail
          clear ck fk HC hb9 HP
          generalize W4.setCell ⟨g, ap, none⟩ (.bool true) = W5 at *
          have I1 := hid0 (IH.out i ap (by omega) bq2 hapn (C.set ap true) W5 (by rw [List.length_set]; exact hCl) P8.out B2.out)
          go_upto_region 13 with (go_at_call 51; refine I1.out.mono ?_; rintro e w6 ⟨rfl, C6, B6, M6, g6⟩; clear I1)
          have P9 : Pts w6 (some ⟨b, off, none⟩) V := fun x hx => by
            obtain ⟨b', o', e, h1, h2⟩ := P8.out x hx
            cases e
            exact ⟨b, off, rfl, (g6.cell (p := ⟨b, off + x * 2, none⟩) hbg).trans h1, (g6.cell (p := ⟨b, off + x * 2 + 1, none⟩) hbg).trans h2⟩
          have I2 := hid0 (IH.out ap j (by omega) bq1 hj C6 w6 (by rw [M6.1, List.length_set]; exact hCl) P9 B6)
          have hb6 := hb8.trans g6
          clear P8 P9 B2 B6 g6 hb8 IH
          go_wp2_with (go_at_call 51; refine I2.out.mono ?_; rintro e w7 ⟨rfl, C7, B7, M7, g7⟩; clear I2)
          go_end0
          refine ⟨rfl, C7, B7, ?_, hb6.trans g7⟩
          rw [eR.out]
          refine ((M1.out.join M6).join M7).same (fun k => ?_)
          simp only [List.mem_append, List.mem_cons, List.not_mem_nil, or_false]
          constructor
          · rintro ((h | h) | h)
            · exact Or.inr (Or.inl h)
            · exact Or.inl h
            · exact Or.inr (Or.inr h)
          · rintro (h | h | h)
            · exact Or.inl (Or.inr h)
            · exact Or.inl (Or.inl h)
            · exact Or.inr h
end
end Go.Proofs.Ytljdnahomhbenaa
