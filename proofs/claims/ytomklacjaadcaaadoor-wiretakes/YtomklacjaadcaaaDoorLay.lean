/- Contract of lay, where there is room in the last piece. -/
import Derived.Test.YtomklacjaadcaaaDoorClone
import Derived.Deep.RegionLaw
namespace Go.Proofs.YtomklacjaadcaaaDoor
open Go.RowKit Go.Sort

theorem al27 : Tryd.prog.arrayLen 27 = 128 := by kernel_rfl
theorem el27 : Tryd.prog.elem 27 = 5 := by kernel_rfl
theorem un27 : Tryd.prog.underlying 27 = some (.array (Tryd.prog.arrayLen 27) (Tryd.prog.elem 27)) := by kernel_rfl
theorem sz5 (w : World) : (sizeOf 5).run Tryd.prog w = .ok 1 w := by
  obtain ⟨i, hi, _, hz, _⟩ := info_parts (P := Tryd.prog) (e := 5) info5
  simp [sizeOf, typeInfo, hi, hz]
theorem sl_from (o off used : Nat) (h : used < 128) (w : World) : (Instr.sliceAt 27 (.pointer (some ⟨o, off, none⟩)) (some (.int .i64 (used : Nat))) none none).run Tryd.prog w = .ok (.slice (some ⟨o, off + used, none⟩) (128 - used) (128 - used)) w := by
  have := run_sliceAt_array_l (P := Tryd.prog) w 27 ⟨o, off, none⟩ un27 .i64 (used : Nat) (by omega) (by rw [al27]; omega)
  rw [this, el27, sz5, al27]
  simp [slicedAt, Addr.add_lit, Result.andThen]
  omega
theorem setRow_grown (w : World) (g : Nat) (cs : Array Value) : w.grownBy (w.setRow g cs) (some g) := ⟨rfl, rfl, rfl, by simp [World.setRow], fun k _ hk => setRow_other w g k cs (fun e => hk (by rw [e]))⟩
/-- A copy, as a step of a region that draws. -/
theorem step_copy {ops : Array Oper} {o : Oper} {a : Act} {w : World} {K : Act → World → Prop} {Q : Exit → Act → World → Prop} {E : Prop} (hgd : o.guard = none) (d s : Operand)
    (ho : o.op = .call { callee := .builtin .copy, args := #[d, s], argTypes := #[31, 31] })
    (dp sp : Option Addr) (dLen dCap sLen sCap : Nat) (hd : a.eval d = .slice dp dLen dCap) (hs : a.eval s = .slice sp sLen sCap)
    (g off : Nat) (cur : List Value) (t : TypeId) (hg : Row w g t cur) (cs : List Value) (n : Nat) (hcn : cs.length = n) (hn : n = Nat.min sLen dLen)
    (hpos : 0 < cs.length → dp = some ⟨g, off, none⟩ ∧ ∃ ad, sp = some ad ∧ ∀ j v, cs[j]? = some v → w.cell? (ad.add j) = some v)
    (hfit : off + cs.length ≤ cur.length) (h1 : ∀ v ∈ cs, v.oneCell' = true)
    (h : ∀ w', Row w' g t (splice cur off cs) → w.grownBy w' (some g) → K (a.put o.dst (goInt n)) w') :
    if Region.wanted o (yielded ops a.tmps) = true then Oper.wp Tryd.prog o a w K Q else E := by
  subst hcn
  have hw : Region.wanted o (yielded ops a.tmps) = true := by simp [Region.wanted, hgd]
  rw [if_pos hw]
  have hsz : (Tryd.prog.info? 5).map (·.size) = some 1 := by kernel_rfl
  by_cases h0 : cs.length = 0
  · obtain rfl : cs = [] := List.eq_nil_of_length_eq_zero h0
    have hrun := run_copy_none (P := Tryd.prog) w 31 31 o.type 5 dp sp dLen dCap sLen sCap Tryd.underlying31 hsz (by simpa using hn.symm)
    unfold Oper.wp
    simp [execOp, ho, resolve, invoke, builtin, hd, hs, hrun, Result.andThen]
    exact h w (by rw [splice_nil]; exact hg) (World.grownBy.refl _ _)
  · obtain ⟨rfl, ad, rfl, hsrc⟩ := hpos (by omega)
    have hrun := run_copy_row (P := Tryd.prog) w 31 31 o.type 5 g off dLen dCap ad sLen sCap cur.toArray t cs Tryd.underlying31 hsz hg hn hsrc (by simpa using hfit) h1
    unfold Oper.wp
    simp [execOp, ho, resolve, invoke, builtin, hd, hs, hrun, Result.andThen]
    exact h _ (by unfold Row; simpa [splice] using setRow_heap w g _ _ t _ hg) (setRow_grown w g _)
def outL (away : Value) (pc : Nat) (last : List UInt8) (used : Nat) : List Value := away :: .int .i64 (pc : Nat) :: (bc last ++ [.int .i64 (used : Nat)])
theorem outL_len {away : Value} {pc used : Nat} {last : List UInt8} (h : last.length = 128) : (outL away pc last used).length = 131 := by simp [outL, bc_len, h]
theorem outL_0 {away : Value} {pc used : Nat} {last : List UInt8} : (outL away pc last used)[0]? = some away := rfl
theorem outL_1 {away : Value} {pc used : Nat} {last : List UInt8} : (outL away pc last used)[1]? = some (.int .i64 (pc : Nat)) := rfl
theorem outL_130 {away : Value} {pc used : Nat} {last : List UInt8} (h : last.length = 128) : (outL away pc last used)[130]? = some (.int .i64 (used : Nat)) := by
  show (bc last ++ [.int .i64 (used : Nat)])[128]? = _
  rw [List.getElem?_append_right (by rw [bc_len]; omega), bc_len, h]
  rfl
theorem outL_at {away : Value} {pc used : Nat} {last : List UInt8} {i : Nat} (h : i < last.length) : (outL away pc last used)[2 + i]? = some (.int .u8 ((last.getD i 0).toNat : Nat)) := by
  rw [Nat.add_comm]
  show (bc last ++ [.int .i64 (used : Nat)])[i]? = _
  rw [List.getElem?_append_left (by rw [bc_len]; exact h), bc_at h]
def spl (last : List UInt8) (k : Nat) (b : List UInt8) : List UInt8 := last.take k ++ (b ++ last.drop (k + b.length))
theorem spl_len {last b : List UInt8} {k : Nat} (h : k + b.length ≤ last.length) : (spl last k b).length = last.length := by simp [spl]; omega
theorem outL_spl {away : Value} {pc used k : Nat} {last b : List UInt8} (h : k + b.length ≤ last.length) : splice (outL away pc last used) (2 + k) (bc b) = outL away pc (spl last k b) used := by
  unfold splice outL spl
  rw [show 2 + k = k + 2 from by omega, show k + 2 + (bc b).length = (k + b.length) + 2 from by rw [bc_len]; omega]
  simp only [List.take_succ_cons, List.drop_succ_cons, List.cons_append, bc_app, List.append_assoc]
  congr 2
  rw [List.take_append_of_le_length (by rw [bc_len]; omega), List.drop_append_of_le_length (by rw [bc_len]; omega)]
  simp [bc]
theorem outL_use {away : Value} {pc used u : Nat} {last : List UInt8} (h : last.length = 128) : (outL away pc last used).set 130 (.int .i64 (u : Nat)) = outL away pc last u := by
  unfold outL
  simp only [List.set_cons_succ]
  congr 2
  rw [List.set_append_right _ _ (by rw [bc_len]; omega), bc_len, h]
  rfl
set_option maxRecDepth 20000 in
set_option maxHeartbeats 3200000 in
theorem lay_fit (o : Nat) (away : Value) (pc used : Nat) (last b : List UInt8) (hl : last.length = 128) (a : Addr) (cap : Nat) (hb0 : 0 < b.length) (hfit : used + b.length ≤ 128) (w : World) (hR : Row w o 29 (outL away pc last used)) (hB : By w (some a) b) :
    Calls Tryd.prog 74 #[.pointer (some ⟨o, 0, none⟩), .slice (some a) b.length cap] w fun e w' => e = .returned (.tuple #[]) ∧ Row w' o 29 (outL away pc (spl last used b) (used + b.length)) ∧ w.grownBy w' (some o) := by
  have r1 := hR.cell 130
  rw [outL_130 hl] at r1
  have hsl := sl_from o 2 used (by omega)
  have HR := hid' hR
  have HB := hid' hB
  clear hR hB
  go_enter Tryd.func74, Tryd.ntmps74
  go_wp2
  refine wp_loop_rounds 2 ?_
  rw [rounds_succ]
  go_upto_region 4 with fail
  go_region_law (refine step_copy rfl (.tmp 24) (.tmp 25) rfl _ _ (128 - used) (128 - used) b.length cap rfl rfl o (2 + used) _ 29 HR.out (bc b) b.length (bc_len b) (Nat.min_eq_left (by omega)).symm (fun _ => ⟨rfl, a, rfl, By.src HB.out⟩) (by rw [outL_len hl, bc_len]; omega) bc_one ?_; intro w2 r2 b2)
  rw [outL_spl (by omega)] at r2
  have hl2 := spl_len (last := last) (b := b) (k := used) (by omega)
  rw [hl] at hl2
  have HG : Hid (w.grownBy w2 (some o)) := ⟨b2.os, b2.tape, b2.output, b2.size, b2.block⟩
  generalize hlst : spl last used b = lst at *
  have HL := hid' hlst
  clear hlst
  have c2 := r2.cell 130
  rw [outL_130 hl2] at c2
  have f2 := r2.frozen 130
  have R3 : Hid (Row (w2.setCell ⟨o, 130, none⟩ (.int .i64 ((used + b.length : Nat)))) o 29 (outL away pc lst (used + b.length))) := by
    show Row _ _ _ _
    rw [← outL_use (u := used + b.length) hl2]
    exact r2.set 130 _
  have G3 : Hid (w.grownBy (w2.setCell ⟨o, 130, none⟩ (.int .i64 ((used + b.length : Nat)))) (some o)) := grown_trans HG.out (setCells_grown [_] 130 w2)
  rw [show ((used + b.length : Nat) : Int) = (used : Int) + (b.length : Int) from by omega] at R3 G3
  clear r2 b2 HG hsl r1 HR HB
  go_wp2
  all_goals rw [rounds_succ]
  all_goals go_wp2
  all_goals go_end0
  all_goals exact ⟨rfl, by rw [HL.out]; exact R3.out, G3.out⟩
end Go.Proofs.YtomklacjaadcaaaDoor
