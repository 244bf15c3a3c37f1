/-
  A sector: its bytes, its type's facts, sectors held against each other, a sector as a result, bytes copied into the middle of one. No condition.
-/
import Derived.Test.YtgdkpmgfholnkaaDoorWr
import Derived.Test.YtgdkpmgfholnkaaDoorRd2
import Derived.Laws.StructEq
import Derived.Laws.ResultCell
import Derived.Laws.CopyOwn
namespace Go.Proofs.YtgdkpmgfholnkaaDoor
open Go.RowKit
set_option linter.unusedSimpArgs false
set_option linter.unusedVariables false
/-- a sector's bytes -/
structure Sec where
  l : List Nat
  len : l.length = 128
  lt : ∀ b ∈ l, b < 256
theorem Sec.ext_ {s t : Sec} (h : s.l = t.l) : s = t := by cases s; cases t; cases h; rfl
def Sec.cs (s : Sec) : List Value := u8s s.l
def Sec.v (s : Sec) : Value := .agg s.cs.toArray
def Sec.zero : Sec := ⟨List.replicate 128 0, by simp, by intro b hb; obtain ⟨_, rfl⟩ := List.mem_replicate.1 hb; omega⟩
def Sec.full (b : Nat) (h : b < 256) : Sec := ⟨List.replicate 128 b, by simp, by intro c hc; obtain ⟨_, rfl⟩ := List.mem_replicate.1 hc; exact h⟩
theorem Sec.cs_len (s : Sec) : s.cs.length = 128 := by simp [Sec.cs, u8s, s.len]
theorem Sec.one (s : Sec) : ∀ u ∈ s.cs, u.oneCell' = true := oneCell_u8s _
theorem u8s_inj : ∀ {a b : List Nat}, u8s a = u8s b → a = b
  | [], [], _ => rfl
  | [], _ :: _, h => by simp [u8s] at h
  | _ :: _, [], h => by simp [u8s] at h
  | x :: a, y :: b, h => by
    simp only [u8s, List.map_cons, List.cons.injEq] at h
    obtain ⟨h1, h2⟩ := h
    have : x = y := by simp only [u8, Value.int.injEq] at h1; omega
    rw [this, u8s_inj (a := a) (b := b) h2]
theorem Sec.v_inj {s t : Sec} (h : s.v = t.v) : s = t := by
  unfold Sec.v at h
  injection h with h
  exact Sec.ext_ (u8s_inj (List.toArray_inj h))

theorem sec_zero : ∀ w, (zeroValue 33).run Tryd.prog w = .ok Sec.zero.v w := fun w => by kernel_rfl
theorem sec_build : ∀ w, (Instr.build 33 #[]).run Tryd.prog w = .ok Sec.zero.v w := fun w => by kernel_rfl
theorem sec_size : (Tryd.prog.info? 33).map (·.size) = some 128 := by kernel_rfl
theorem eq_loop (P : Program) (e : TypeId) (d : Nat) (a b : List Nat) (hl : a.length = b.length) (he : P.underlying e = some (.int .u8))
    (hp : ∀ (w : World) (cs : Array Value) (i v : Nat), cs[i]? = some (.int .u8 (v : Int)) → (Go.part e cs i).run P w = .ok (.int .u8 (v : Int)) w) (w : World) : ∀ m s, s + m = a.length →
    (Sem.run P (forIn (List.range' s m 1) (none, ()) fun i (_ : Option Bool × Unit) => do
        let x ← Go.part e (u8s a).toArray (i * 1)
        let y ← Go.part e (u8s b).toArray (i * 1)
        let r ← Op.equalIn (d + 1) e x y
        if (!r) = true then pure (ForInStep.done (some false, ())) else pure (ForInStep.yield (none, ()))) w) = .ok (if a.drop s = b.drop s then (none, ()) else (some false, ())) w
  | 0, s, h => by
    rw [List.drop_of_length_le (by omega), List.drop_of_length_le (by omega)]
    simp
  | m + 1, s, h => by
    have h1 : s < a.length := by omega
    have h2 : s < b.length := by omega
    have pa := hp w (u8s a).toArray s (a[s]) (by simp [u8s, u8, h1])
    have pb := hp w (u8s b).toArray s (b[s]) (by simp [u8s, u8, h2])
    have ih := eq_loop P e d a b hl he hp w m (s + 1) (by omega)
    rw [List.range'_succ, List.forIn_cons]
    simp only [Nat.mul_one] at ih ⊢
    simp only [Sem.run_bind, pa, pb, Result.andThen_ok, run_equalIn_int w d e .u8 .u8 _ _ he]
    have hd : (a.drop s = b.drop s) ↔ (a[s] = b[s] ∧ a.drop (s + 1) = b.drop (s + 1)) := by
      rw [List.drop_eq_getElem_cons h1, List.drop_eq_getElem_cons h2, List.cons.injEq]
    by_cases hx : a[s] = b[s]
    · have hb : (((a[s] : Nat) : Int) == ((b[s] : Nat) : Int)) = true := by rw [hx]; simp
      rw [hb]
      simp only [Bool.not_true, Bool.false_eq_true, if_false, Sem.run_pure, Result.andThen_ok]
      rw [ih]
      by_cases hy : a.drop (s + 1) = b.drop (s + 1)
      · rw [if_pos hy, if_pos (hd.2 ⟨hx, hy⟩)]
      · rw [if_neg hy, if_neg (fun h => hy (hd.1 h).2)]
    · have hb : (((a[s] : Nat) : Int) == ((b[s] : Nat) : Int)) = false := by simp; omega
      rw [hb, if_neg (fun h => hx (hd.1 h).1)]
      simp
theorem run_equalIn_bytes (P : Program) (t e : TypeId) (d : Nat) (a b : List Nat) (w : World) (ht : P.underlying t = some (.array a.length e)) (he : P.underlying e = some (.int .u8)) (hs : (sizeOf e).run P w = .ok 1 w) (hl : a.length = b.length)
    (hp : ∀ (w : World) (cs : Array Value) (i v : Nat), cs[i]? = some (.int .u8 (v : Int)) → (Go.part e cs i).run P w = .ok (.int .u8 (v : Int)) w) :
    (Op.equalIn (d + 1 + 1) t (.agg (u8s a).toArray) (.agg (u8s b).toArray)).run P w = .ok (a == b) w := by
  have h0 := eq_loop P e d a b hl he hp w a.length 0 (by omega)
  rw [Op.equalIn]
  simp only [Sem.run_bind, run_underlying ht, Result.andThen_ok, hs]
  rw [Std.Legacy.Range.forIn_eq_forIn_range']
  simp only [Std.Legacy.Range.size] at h0 ⊢
  simp only [Nat.sub_zero, Nat.div_one, Nat.add_one_sub_one] at h0 ⊢
  rw [h0]
  simp only [List.drop_zero]
  by_cases hx : a = b
  · simp [hx]
  · simp [hx]
theorem byte_part (w : World) (cs : Array Value) (i v : Nat) (h : cs[i]? = some (.int .u8 (v : Int))) : (Go.part 5 cs i).run Tryd.prog w = .ok (.int .u8 (v : Int)) w := by
  have hu := Tryd.underlying5
  simp [Go.part, isAgg, run_underlying hu, h]
theorem byte_one (w : World) : (sizeOf 5).run Tryd.prog w = .ok 1 w := by kernel_rfl
def secEq (s t : Sec) : Bool := s.l == t.l
theorem secEq_iff (s t : Sec) : secEq s t = true ↔ s = t := by
  unfold secEq
  rw [beq_iff_eq]
  exact ⟨Sec.ext_, fun h => by rw [h]⟩
theorem secEq_same (s : Sec) : secEq s s = true := (secEq_iff s s).2 rfl
theorem run_sec_in (s t : Sec) (w : World) : (Op.equalIn 10000 33 (.agg s.cs.toArray) (.agg t.cs.toArray)).run Tryd.prog w = .ok (secEq s t) w := by
  have := run_equalIn_bytes Tryd.prog 33 5 9998 s.l t.l w (by rw [s.len]; exact Tryd.underlying33) Tryd.underlying5 (byte_one w) (by rw [s.len, t.len]) byte_part
  unfold Sec.cs
  exact this
theorem run_sec_guard (op : BinOp) (x y : Operand) (a b : Array Value) (w : World) : (eqGuard op 33 x y (.agg a) (.agg b)).run Tryd.prog w = .ok () w := run_eqGuard_agg w op _ x y a b (by kernel_rfl)
theorem run_sec_eq (s t : Sec) (w : World) : (binOp .eql 33 (.agg s.cs.toArray) (.agg t.cs.toArray)).run Tryd.prog w = .ok (.bool (secEq s t)) w := by
  rw [run_eql_struct]
  have := run_equalIn_bytes Tryd.prog 33 5 9998 s.l t.l w (by rw [s.len]; exact Tryd.underlying33) Tryd.underlying5 (byte_one w) (by rw [s.len, t.len]) byte_part
  unfold Sec.cs
  rw [this]
  rfl
theorem run_sec_neq (s t : Sec) (w : World) : (binOp .neq 33 (.agg s.cs.toArray) (.agg t.cs.toArray)).run Tryd.prog w = .ok (.bool (!secEq s t)) w := by
  rw [run_neq_struct]
  have := run_equalIn_bytes Tryd.prog 33 5 9998 s.l t.l w (by rw [s.len]; exact Tryd.underlying33) Tryd.underlying5 (byte_one w) (by rw [s.len, t.len]) byte_part
  unfold Sec.cs
  rw [this]
  rfl

theorem Sec.info (s : Sec) : (Tryd.prog.info? 33).map (·.size) = some s.cs.length := by rw [s.cs_len]; exact sec_size
theorem Sec.infoA (s : Sec) : (Tryd.prog.info? 33).map (·.size) = some s.cs.toArray.size := by rw [List.size_toArray]; exact s.info
theorem load_sec {w : World} {g : Nat} {s : Sec} (hg : Blk w g 33 s.cs.toArray) : (loadVar 33 ⟨g, 0, none⟩).run Tryd.prog w = .ok s.v w :=
  run_loadVar_row w g 33 33 s.cs.toArray (0, 0) _ hg Tryd.underlying33 rfl s.infoA
/-- a sector and a value, as a function's two results -/
theorem sec_results2 {fn : Func} {p u : Tmp} (h : fn.results = #[.cell p 33, .tmp u]) (tmps : Array Value) (w : World) (g : Nat) (s : Sec) (v : Value) (hp : tmps.getD p undef = .pointer (some ⟨g, 0, none⟩)) (hv : tmps.getD u undef = v) (hg : Blk w g 33 s.cs.toArray) :
    (results fn tmps).run Tryd.prog w = .ok (.tuple #[s.v, v]) w := by
  rw [results_cell_tmp h, hp, hv]
  simp [asAddr, load_sec hg, Result.andThen]
theorem sec_results1 {fn : Func} {p : Tmp} (h : fn.results = #[.cell p 33]) (tmps : Array Value) (w : World) (g : Nat) (s : Sec) (hp : tmps.getD p undef = .pointer (some ⟨g, 0, none⟩)) (hg : Blk w g 33 s.cs.toArray) :
    (results fn tmps).run Tryd.prog w = .ok s.v w :=
  results_cell_row h tmps w g 33 s.cs.toArray (0, 0) _ hp hg Tryd.underlying33 rfl s.infoA
/-- bytes copied into the middle of a block -/
theorem wp_copy_mid {o : Oper} {a : Act} {w : World} {K : Act → World → Prop} {Q : Exit → Act → World → Prop} (x y : Operand) (ho : o.op = .call { callee := .builtin .copy, args := #[x, y], argTypes := #[22, 22] })
    (gb off m mc : Nat) (t : TypeId) (cur : List Nat) (hg : Blk w gb t (u8s cur).toArray) (hx : a.eval x = .slice (some ⟨gb, off, none⟩) m mc) (A : Option Addr) (k c B : Nat) (bs : List Nat) (hy : a.eval y = .slice A k c) (hb : Bytes w B A k bs) (hk : k ≤ m) (hfit : off + k ≤ cur.length)
    (h : ∀ w', Blk w' gb t (u8s (cur.take off ++ bs ++ cur.drop (off + k))).toArray → Only [gb] w w' → K (a.put o.dst (goInt k)) w') : o.wp Tryd.prog a w K Q := by
  have hl : (u8s bs).length = k := by rw [u8s_length, hb.len]
  rcases Nat.eq_zero_or_pos k with h0 | hm
  · subst h0
    have hbs : bs = [] := List.eq_nil_of_length_eq_zero hb.len
    subst hbs
    have hrun := run_copy_none (P := Tryd.prog) w 22 22 o.type 5 (some ⟨gb, off, none⟩) A m mc 0 c Tryd.underlying22 byte_size1 (Nat.zero_min m)
    unfold Oper.wp
    simp [execOp, ho, resolve, invoke, builtin, hx, hy, hrun, Result.andThen]
    exact h w (by rw [List.append_nil, Nat.add_zero, List.take_append_drop]; exact hg) (Only.refl _ _)
  · obtain ⟨ad, rfl, hB, hc⟩ := hb.1.2 hm
    have hrun := run_copy_row (P := Tryd.prog) w 22 22 o.type 5 gb off m mc ad k c (u8s cur).toArray t (u8s bs) Tryd.underlying22 byte_size1 hg (by rw [hl]; exact (Nat.min_eq_left hk).symm) hc (by rw [hl]; simp [u8s]; omega) (oneCell_u8s _)
    unfold Oper.wp
    simp [execOp, ho, resolve, invoke, builtin, hx, hy, hrun, Result.andThen]
    rw [hl]
    refine h _ ?_ ?_
    · have := setRow_heap w gb (u8s cur).toArray ((u8s cur).take off ++ u8s bs ++ (u8s cur).drop (off + k)).toArray t (0, 0) hg
      unfold Blk
      have e : u8s (cur.take off ++ bs ++ cur.drop (off + k)) = (u8s cur).take off ++ u8s bs ++ (u8s cur).drop (off + k) := by simp [u8s, List.map_append, List.map_take, List.map_drop]
      rw [e]
      simpa using this
    · exact ⟨rfl, rfl, rfl, by simp [World.setRow], fun j hj hn => setRow_other w gb j _ (fun e => hn (by simp [e]))⟩
/-- bytes from the middle of a block on -/
theorem Blk.bytes {w : World} {g off n : Nat} {t : TypeId} {l : List Nat} (h : Blk w g t (u8s l).toArray) (hn : off + n ≤ l.length) (hl : ∀ b ∈ l, b < 256) : Bytes w w.heap.size (some ⟨g, off, none⟩) n ((l.drop off).take n) := by
  refine ⟨⟨by rw [u8s_length, List.length_take, List.length_drop]; omega, fun _ => ⟨_, rfl, h.lt, fun j u hu => ?_⟩⟩, fun b hb => hl b (List.mem_of_mem_drop (List.mem_of_mem_take hb))⟩
  have e : (⟨g, off, none⟩ : Addr).add j = ⟨g, off + j, none⟩ := by
    unfold Addr.add
    split
    · simp_all
    · simp
  rw [e, h.cell]
  simp only [u8s, List.map_take, List.map_drop] at hu
  rw [List.getElem?_take] at hu
  split at hu
  · rw [List.getElem?_drop] at hu
    simpa [u8s] using hu
  · cases hu
end Go.Proofs.YtgdkpmgfholnkaaDoor
