/- The iterator of nodes: what walk tells. -/
import Derived.Test.YtpikhdfndnpidaaTj
set_option linter.unusedSimpArgs false
set_option linter.unusedVariables false
namespace Go.Proofs.Ytpikhdfndnpidaa
open Go.RowKit Go.Sort Go.Shelf
attribute [local go_sem] Oper.semAt_some wide_fn
attribute [local simp] wide_fn

theorem walk_any (v : Value) (o : Option Addr) (hv : v = .pointer o) (g : Nat) (lb : Array Value) (w : World) : Calls Try.prog 38 #[v, .func (.func g) #[] lb] w fun e w' => e = .returned (.func (.func 49) #[] #[.pointer (some ⟨w.heap.size, 0, none⟩), .pointer (some ⟨w.heap.size + 1, 0, none⟩)]) ∧ w' = (w.alloc (.cells #[v] 23)).alloc (.cells #[.func (.func g) #[] lb] 72) := by
  subst hv
  go_enter Try.func38, Try.ntmps38
  go_wp2
  go_ret
  exact ⟨by simp, rfl⟩
/-- tell's contract, of a function that it is handed. -/
def TellOk (f : Q4 → Bool) (fv : Value) (p0 : Nat → Prop) (w : World) (t : At) : Prop :=
  ∀ (l B : Nat) (J : (Nat → Prop) → List Nd → World → Prop) (Jx : List Nd → World → Prop) (L : List Nd), Con B J →
    (∀ p pre x W1, (∀ b, p0 b → p b) → (∀ b, p b → b < W1.heap.size) → J p pre W1 → B ≤ W1.heap.size → pre ++ [x] <+: L → YieldAt Fence.wide 0 Try.prog l (nEnc x) W1 (RoundEnds B J Jx p (pre ++ [x]) W1)) →
    ∀ (n : Nat) (p : Nat → Prop) (pre : List Nd) (W : World), (∀ b, p0 b → p b) → (∀ b, p b → b < W.heap.size) → Kp p0 w W → B ≤ W.heap.size → J p pre W → pre ++ t.tellN f <+: L →
    CallsIn Fence.wide n Try.prog 50 #[t.ptr, fv, .func (.yield l) #[] #[]] W (TellEnds B J Jx L p (pre ++ t.tellN f) W)
/-- What is told of a Tree, or of none. -/
def Told (w : World) (f : Q4 → Bool) (v : Value) (L : List Nd) : Prop := (NoTree w v ∧ L = []) ∨ ∃ T t, TreeIs w T t ∧ v = .pointer (some ⟨T, 0, none⟩) ∧ L = t.tellN f
theorem Told.no {w : World} {f : Q4 → Bool} {v : Value} (h : NoTree w v) : Told w f v [] := .inl ⟨h, rfl⟩
theorem Told.yes {w : World} {f : Q4 → Bool} {T : Nat} {t : At} (h : TreeIs w T t) : Told w f (.pointer (some ⟨T, 0, none⟩)) (t.tellN f) := .inr ⟨T, t, h, rfl, rfl⟩
theorem Told.gr {w w' : World} {f : Q4 → Bool} {v : Value} {L : List Nd} (h : Told w f v L) (g : Gr w w') : Told w' f v L := by
  rcases h with ⟨h, rfl⟩ | ⟨T, t, h, rfl, rfl⟩
  · exact .no (h.gr g)
  · exact .yes (h.gr g)
theorem Told.ptr {w : World} {f : Q4 → Bool} {v : Value} {L : List Nd} (h : Told w f v L) : ∃ o, v = .pointer o := by
  rcases h with ⟨h, rfl⟩ | ⟨T, t, h, rfl, rfl⟩
  · rcases h with rfl | ⟨b, rfl, _⟩ <;> exact ⟨_, rfl⟩
  · exact ⟨_, rfl⟩
set_option maxRecDepth 20000 in
set_option maxHeartbeats 4000000 in
theorem walk1_in (n bt bw l : Nat) (v : Value) (g : Nat) (lb : Array Value) (f : Q4 → Bool) (L : List Nd) (p0 : Nat → Prop) (J : (Nat → Prop) → List Nd → World → Prop) (Jx : List Nd → World → Prop) (p : Nat → Prop) (w W : World) (gW : Gr w W)
    (hT : Told w f v L) (hbt : Bk W bt 23 [v]) (hbw : Bk W bw 72 [.func (.func g) #[] lb]) (hK : ∀ t, TrAt w t → TellOk f (.func (.func g) #[] lb) p0 w t) (hpw : ∀ b, p0 b → b < w.heap.size)
    (hp : ∀ b, p0 b → p b) (hpb : ∀ b, p b → b < W.heap.size) (hJ : Con W.heap.size J)
    (hY : ∀ p pre x W1, (∀ b, p0 b → p b) → (∀ b, p b → b < W1.heap.size) → J p pre W1 → W.heap.size ≤ W1.heap.size → pre ++ [x] <+: L → YieldAt Fence.wide 0 Try.prog l (nEnc x) W1 (RoundEnds W.heap.size J Jx p (pre ++ [x]) W1)) (h0 : J p [] W) :
    CallsIn Fence.wide n Try.prog 49 #[.func (.yield l) #[] #[], .pointer (some ⟨bt, 0, none⟩), .pointer (some ⟨bw, 0, none⟩)] W fun e W' => (∃ v, e = .returned v) ∧ ((∃ q, J q L W' ∧ ∀ b, p b → q b) ∨ (∃ pre, pre <+: L ∧ Jx pre W')) := by
  have c0 := hbt.one
  rcases hT with ⟨hN, rfl⟩ | ⟨T, t, hY', rfl, rfl⟩
  · skip
    have I := hid0 (isNone_no v W (hN.gr gW))
    have FIN : Hid (∃ q, J q [] W ∧ ∀ b, p b → q b) := ⟨p, h0, fun _ h => h⟩
    clear hY hK hN h0 gW
    refine callsIn_of_wp Try.func49 rfl trivial ?_ rfl
    simp only [Try.ntmps49, List.size_toArray, List.length_cons, List.length_nil, Nat.reduceAdd, Nat.reduceSub, Array.replicate_succ, Array.replicate_zero, List.push_toArray, List.append_toArray, List.nil_append, List.cons_append]
    gi_wp2_with fail
    refine ⟨fun h => (by cases h), (callsIn_wide.2 I.out).mono ?_⟩
    rintro e w1 ⟨rfl, hw⟩
    cases hw
    gi_wp2
    go_end0
    exact ⟨⟨_, rfl⟩, .inl FIN.out⟩
  · skip
    have I := hid0 (isNone_yes T W (hY'.gr gW).made)
    have CC : Hid (∀ k, CallsIn Fence.wide (n - 1) Try.prog 50 #[t.ptr, .func (.func g) #[] lb, .func (.yield l) #[] #[]] (W.drewN k) (TellEnds W.heap.size J Jx (t.tellN f) p (t.tellN f) (W.drewN k))) := fun k => by
      have gk : Gr W (W.drewN k) := (Gr.refl W).drewN k
      have := hK t hY'.tr l W.heap.size J Jx (t.tellN f) hJ hY (n - 1) p [] (W.drewN k) hp (fun b hb => Nat.lt_of_lt_of_le (hpb b hb) gk.size) (Kp.gr hpw (gW.trans gk)) gk.size (hJ.gr h0 gk) (by simp)
      simpa using this
    have r1 := (hY'.gr gW).root
    have w0 := hbw.one
    generalize t.ptr = tp at *
    clear hY hK hY' h0 gW
    refine callsIn_of_wp Try.func49 rfl trivial ?_ rfl
    simp only [Try.ntmps49, List.size_toArray, List.length_cons, List.length_nil, Nat.reduceAdd, Nat.reduceSub, Array.replicate_succ, Array.replicate_zero, List.push_toArray, List.append_toArray, List.nil_append, List.cons_append]
    gi_wp2_with fail
    refine ⟨fun h => (by cases h), (callsIn_wide.2 I.out).mono ?_⟩
    rintro e w1 ⟨rfl, hw⟩
    cases hw
    gi_wp2_with fail
    have c0' : ∀ k, (W.drewN k).cell? ⟨bt, 0, none⟩ = some (.pointer (some ⟨T, 0, none⟩)) := fun k => below_cell c0 ((Gr.refl W).drewN k).below
    have r1' : ∀ k, (W.drewN k).cell? ⟨T, 1, none⟩ = some tp := fun k => below_cell r1 ((Gr.refl W).drewN k).below
    have w0' : ∀ k, (W.drewN k).cell? ⟨bw, 0, none⟩ = some (.func (.func g) #[] lb) := fun k => below_cell w0 ((Gr.refl W).drewN k).below
    clear c0 r1 w0
    refine region_head_lit 6 (by kernel_rfl) (by kernel_rfl) (by simp) (by kernel_rfl) ?_
    simp only [List.take_succ_cons, List.take_zero, List.drop_succ_cons, List.drop_zero]
    repeat (gi_big_quiet_step (fail))
    refine wpQuietIn_nil ?_
    intro _ hw'
    obtain ⟨k, rfl⟩ := hw'
    gi_wp2_with fail
    refine ⟨fun h => (by cases h), (CC.out k).mono ?_⟩
    rintro e W2 (⟨rfl, j2, _, _⟩ | ⟨rfl, u, hu, hx⟩)
    · gi_wp2
      go_end0
      exact ⟨⟨_, rfl⟩, .inl ⟨p, j2, fun _ h => h⟩⟩
    · gi_wp2
      go_end0
      exact ⟨⟨_, rfl⟩, .inr ⟨u, hu, hx⟩⟩
theorem walk1_seq (n bt bw : Nat) (v : Value) (g : Nat) (lb : Array Value) (f : Q4 → Bool) (L : List Nd) (p0 : Nat → Prop) (w1 w : World) (g1 : Gr w1 w)
    (hT : Told w1 f v L) (hbt : Bk w bt 23 [v]) (hbw : Bk w bw 72 [.func (.func g) #[] lb]) (hK : ∀ t, TrAt w1 t → TellOk f (.func (.func g) #[] lb) p0 w1 t) (hpw : ∀ b, p0 b → b < w1.heap.size) :
    SeqO n 49 #[.pointer (some ⟨bt, 0, none⟩), .pointer (some ⟨bw, 0, none⟩)] nEnc L p0 w := fun l J Jx p W gW hp hpb hJ hJx hY h0 =>
  walk1_in n bt bw l v g lb f L p0 J Jx p w1 W (g1.trans gW) hT (hbt.gr gW) (hbw.gr gW) hK hpw hp hpb hJ hY h0
/-- What is to stay while a walk goes on: the nodes, and the box that is asked for. -/
def Stay (w : World) (bc : Nat) (b : Nat) : Prop := isNode w b ∨ b = bc
theorem tell_ok39 (w : World) (bc : Nat) (bq : Q4) (hbc : Bk w bc 36 [.int .i32 bq.1, .int .i32 bq.2.1, .int .i32 bq.2.2.1, .int .i32 bq.2.2.2]) (t : At) (hT : TrAt w t) : TellOk (fun q => meetQ q bq) (.func (.func 39) #[] #[.pointer (some ⟨bc, 0, none⟩)]) (Stay w bc) w t :=
  fun l B J Jx L hJ hY n p pre W h1 h2 h3 h4 h5 h6 => tell39_in w l B J Jx L (Stay w bc) (fun x h => .inl h) hJ bc bq hbc (.inr rfl) hY t hT n p pre W h1 h2 h3 h4 h5 h6
theorem tell_ok45 (w : World) (t : At) (hT : TrAt w t) : TellOk (fun _ => true) (.func (.func 45) #[] #[]) (isNode w) w t :=
  fun l B J Jx L hJ hY n p pre W h1 h2 h3 h4 h5 h6 => tell45_in w l B J Jx L (isNode w) (fun x h => h) hJ (fun _ => true) (fun _ => rfl) hY t hT n p pre W h1 h2 h3 h4 h5 h6
theorem isNode.lt {w : World} {b : Nat} (h : isNode w b) : b < w.heap.size := by obtain ⟨l, h⟩ := h; exact h.lt
theorem Told.mem {w : World} {f : Q4 → Bool} {v : Value} {L : List Nd} (h : Told w f v L) {x : Nd} (hx : x ∈ L) : ∃ l h r d, Bk w x.1 80 (nodeL x.2.1 x.2.2 l h r d) := by
  rcases h with ⟨h, rfl⟩ | ⟨T, t, h, rfl, rfl⟩
  · cases hx
  · exact h.tr.mem hx
theorem mem_pre {α : Type} {pre L : List α} {x : α} (h : pre ++ [x] <+: L) : x ∈ L := by obtain ⟨t, rfl⟩ := h; simp
end Go.Proofs.Ytpikhdfndnpidaa
