/-
  What takes over the marks of a snapshot that goes (view.follow). Conditions: the rows are the call's own, and lie apart.
-/
import Derived.Test.YtiimanoloedbeaaOg

namespace Go.Proofs.Ytiimanoloedbeaa
open Go.RowKit Go.BigFrame
set_option linter.unusedSimpArgs false
set_option linter.unusedVariables false
set_option maxRecDepth 100000
theorem wp_setth {P : Program} {o : Oper} {a : Act} {w : World} {K : Act → World → Prop} {Q : Exit → Act → World → Prop} (ty : TypeId) (x y : Operand) (ho : o.op = .store ty x y)
    (g j : Nat) (v : Value) (hx : a.eval x = .pointer (some ⟨g, j, none⟩)) (hy : a.eval y = v) (hth : w.there g j 1) (hi : (P.info? ty).map (·.size) = some 1) (h1 : v.oneCell' = true)
    (h : K (a.put o.dst undef) (w.setCell ⟨g, j, none⟩ v)) : o.wp P a w K Q := by
  unfold Oper.wp execOp
  simp only [ho, hx, hy, Instr.storeAt, Instr.sureAddr, Sem.run_bind, Sem.run_pure, Result.andThen_ok, run_store_cell w g j ty v hth hi h1]
  exact h
theorem list_set_at {α : Type} {l : List α} {k : Nat} {x : α} (h : l[k]? = some x) : l.set k x = l := by
  apply List.ext_getElem?
  intro i
  by_cases hi : i = k
  · subst hi; rw [List.getElem?_set_self (List.getElem?_eq_some_iff.1 h).1, h]
  · rw [List.getElem?_set_ne (Ne.symm hi)]
/-- what taking over comes to -/
def FollTo (w : World) (base gp jp : Nat) (M : Option Addr) (n c : Nat) (row row2 : List Nat) (b : Bool) (e : Ending) (w' : World) : Prop :=
  e = .returned (.tuple #[]) ∧ ∃ w1, Only (rowOf (.slice M 0 0)) w w1 ∧ Own w1 base (.slice M n c) n (follM row row2) ∧ w' = w1.setCell ⟨gp, jp, none⟩ (.bool b)
/-- the state ahead of the k-th mark -/
structure Fol (w W2 : World) (base : Nat) (M : Option Addr) (n c : Nat) (row row2 : List Nat) (k : Nat) (wr : World) : Prop where
  o : Only (rowOf (.slice M 0 0)) W2 wr
  own : Own wr base (.slice M n c) n (follK row row2 k)
theorem u8s_set (l : List Nat) (k b : Nat) : u8s (l.set k b) = (u8s l).set k (.int .u8 (b : Int)) := by unfold u8s; rw [List.map_set]; rfl
theorem u8s_at (l : List Nat) (k : Nat) : (u8s l)[k]? = (l[k]?).map u8 := by unfold u8s; rw [List.getElem?_map]
set_option maxHeartbeats 16000000 in
theorem follow_any (w : World) (base gp jp gq jq n c n2 c2 : Nat) (M M2 : Option Addr) (on on2 b1 b2 : Bool) (row row2 : List Nat) (hn : n ≤ 1000000) (hn2 : n2 ≤ 1000000) (hrl : row.length = n) (hrl2 : row2.length = n2) (h1 : Own w base (.slice M n c) n row) (h2 : Own w base (.slice M2 n2 c2) n2 row2) (hlt : ∀ x ∈ row, x < 256) (hlt2 : ∀ x ∈ row2, x < 256)
    (hd : ∀ q ∈ rowOf (.slice M2 0 0), q ∉ rowOf (.slice M 0 0)) (hp : gp < w.heap.size) (hq : gq < w.heap.size) (hpM : gp ∉ rowOf (.slice M 0 0)) (hqM : gq ∉ rowOf (.slice M 0 0)) (kp : w.cell? ⟨gp, jp, none⟩ = some (.bool b1)) (kq : w.cell? ⟨gq, jq, none⟩ = some (.bool b2)) (hth : w.there gp jp 1) (hb : base ≤ w.heap.size) :
    Calls Try.prog 159 #[.agg #[.bool on, .pointer (some ⟨gp, jp, none⟩), .slice M n c], .agg #[.bool on2, .pointer (some ⟨gq, jq, none⟩), .slice M2 n2 c2]] w (FollTo w base gp jp M n c row row2 (b1 && b2)) := by
  obtain ⟨W2, hW2⟩ : ∃ W, W = (w.alloc (.cells #[.bool on, .pointer (some ⟨gp, jp, none⟩), .slice M n c] 163)).alloc (.cells #[.bool on2, .pointer (some ⟨gq, jq, none⟩), .slice M2 n2 c2] 163) := ⟨_, rfl⟩
  have hb2 : Below w.heap.size w W2 := by rw [hW2]; exact (below_alloc w _).alloc (by simp) _
  have hz2 : W2.heap.size = w.heap.size + 2 := by rw [hW2]; simp
  have k0 : Blk W2 w.heap.size 163 #[.bool on, .pointer (some ⟨gp, jp, none⟩), .slice M n c] := by rw [hW2]; exact (Blk.new w _ _).alloc _
  have k1 : Blk W2 (w.heap.size + 1) 163 #[.bool on2, .pointer (some ⟨gq, jq, none⟩), .slice M2 n2 c2] := by rw [hW2]; exact blk_two _ _ _ _
  have hMw : ∀ q ∈ rowOf (.slice M 0 0), q < w.heap.size := fun q hq => row_under h1 q (by rwa [row_slice M n c 0 0])
  obtain ⟨m, hm⟩ : ∃ m, m = min n n2 := ⟨_, rfl⟩
  have HMN : Hid (min (n : Int) (n2 : Int) = (m : Int)) := Lib.hid (by omega)
  have HM := Lib.hid (And.intro hm (And.intro hrl (And.intro hrl2 (And.intro hlt hlt2))))
  have HB := Lib.hid (And.intro hb2 (And.intro hz2 (And.intro hMw (And.intro h2 hd))))
  have HK : Hid (∀ W', Only (rowOf (.slice M 0 0)) W2 W' → Blk W' w.heap.size 163 #[.bool on, .pointer (some ⟨gp, jp, none⟩), .slice M n c] ∧ Blk W' (w.heap.size + 1) 163 #[.bool on2, .pointer (some ⟨gq, jq, none⟩), .slice M2 n2 c2]) := Lib.hid fun W' hW' => ⟨k0.only hW' (fun h => by have := hMw _ h; omega), k1.only hW' (fun h => by have := hMw _ h; omega)⟩
  have HP : Hid (∀ W', Only (rowOf (.slice M 0 0)) W2 W' → W'.cell? ⟨gp, jp, none⟩ = some (.bool b1) ∧ W'.cell? ⟨gq, jq, none⟩ = some (.bool b2) ∧ W'.there gp jp 1) := Lib.hid fun W' hW' => by
    have e1 : W'.heap[gp]? = w.heap[gp]? := (hW'.block gp (by omega) hpM).trans (hb2.block gp hp)
    have e2 : W'.heap[gq]? = w.heap[gq]? := (hW'.block gq (by omega) hqM).trans (hb2.block gq hq)
    exact ⟨(World.cell?_of_block (a := ⟨gp, jp, none⟩) e1).trans kp, (World.cell?_of_block (a := ⟨gq, jq, none⟩) e2).trans kq, fun j hj => by
      obtain ⟨x1, x2⟩ := hth j hj
      exact ⟨by rw [World.cell?_of_block (a := ⟨gp, jp + j, none⟩) e1]; exact x1, by rw [World.frozen?_of_block (a := ⟨gp, jp + j, none⟩) e1]; exact x2⟩⟩
  have HF0 : Hid (Fol w W2 base M n c row row2 0 W2) := Lib.hid ⟨Only.refl _ _, by rw [follK_zero]; exact own_below h1 hb2⟩
  have HR2 : Hid (∀ W', Only (rowOf (.slice M 0 0)) W2 W' → Own W' base (.slice M2 n2 c2) n2 row2) := Lib.hid fun W' hW' => row_of (own_below h2 hb2) fun q hq => hW'.block q (row_under (own_below h2 hb2) q hq) (hd q (by rwa [row_slice M2 n2 c2 0 0] at hq))
  have k0c : W2.cell? ⟨w.heap.size, 2, none⟩ = some (.slice M n c) := k0.cell 2
  have k1c : W2.cell? ⟨w.heap.size + 1, 2, none⟩ = some (.slice M2 n2 c2) := k1.cell 2
  have HW2 := Lib.hid hW2
  have hsz := hz2
  clear hW2 hb2 hz2 k0 k1 hMw hm hrl hrl2 h1 h2 hlt hlt2 hd hp hq hpM hqM kp kq hth
  go_enter Try.func159, Try.ntmps159
  go_upto_region 1 with (fail)
  rw [← HW2.out]
  clear HW2
  go_wp2_with (have _h := HMN; refine wpList_min rfl (.tmp 7) (.tmp 10) rfl n n2 m rfl rfl HMN.out ?_; clear _h)
  clear k0c k1c
  go_loopw [12] (fun i wr => ∃ k : Nat, i = .int .i64 k ∧ k ≤ m ∧ Fol w W2 base M n c row row2 k wr) (fun i _ => m - (intOf i).toNat)
  case atStart => exact ⟨0, rfl, Nat.zero_le _, HF0.out⟩
  case round =>
    obtain ⟨k, rfl, hk, hF⟩ := hrel
    have HF := Lib.hid hF
    clear hF
    by_cases hlt : k < m
    · have d1 : decide ((k : Int) < (m : Int)) = true := decide_eq_true (by omega)
      have hk9 : k ≤ 1000000 := by have := HM.out.1; omega
      have hwk : IntKind.i64.wrap ((k : Int) + 1) = (k : Int) + 1 := by rw [IntKind.wrap_i64]; omega
      have hkn : k < n := by have := HM.out.1; omega
      have hkn2 : k < n2 := by have := HM.out.1; omega
      obtain ⟨gM, rfl⟩ : ∃ gM, M = some ⟨gM, 0, none⟩ := by
        rcases HF.out.own.2 with ⟨h, h0⟩ | ⟨g', cap, cur, hv, -⟩
        · omega
        · injection hv with h; exact ⟨g', h⟩
      obtain ⟨gM2, rfl⟩ : ∃ gM2, M2 = some ⟨gM2, 0, none⟩ := by
        rcases (HR2.out wr HF.out.o).2 with ⟨h, h0⟩ | ⟨g', cap, cur, hv, -⟩
        · omega
        · injection hv with h; exact ⟨g', h⟩
      obtain ⟨a, ha⟩ : ∃ a, a = mk row k := ⟨_, rfl⟩
      obtain ⟨b, hb⟩ : ∃ b, b = mk row2 k := ⟨_, rfl⟩
      have c0 : wr.cell? ⟨w.heap.size, 2, none⟩ = some (.slice (some ⟨gM, 0, none⟩) n c) := (HK.out wr HF.out.o).1.cell 2
      have c1 : wr.cell? ⟨w.heap.size + 1, 2, none⟩ = some (.slice (some ⟨gM2, 0, none⟩) n2 c2) := (HK.out wr HF.out.o).2.cell 2
      have ca : wr.cell? ⟨gM, k, none⟩ = some (.int .u8 (a : Int)) := by
        rw [World.ownsRow.cellAt HF.out.own k (by omega), u8s_at, follK_at row row2 k (by rw [HM.out.2.1]; exact hkn), if_neg (by omega), ← ha]
        rfl
      have cb : wr.cell? ⟨gM2, k, none⟩ = some (.int .u8 (b : Int)) := by
        have hr := HR2.out wr HF.out.o
        rw [World.ownsRow.cellAt hr k (by omega), u8s_at, List.getElem?_eq_getElem (by rw [HM.out.2.2.1]; exact hkn2), hb, mk_at (List.getElem?_eq_getElem (by rw [HM.out.2.2.1]; exact hkn2))]
        rfl
      have HST : Hid (follK row row2 (k + 1) = (follK row row2 k).set k (fol1 a b)) := Lib.hid (by rw [ha, hb]; exact follK_step row row2 (by rw [HM.out.2.1]; exact hkn))
      have HSM : Hid (fol1 a b = a → follK row row2 (k + 1) = follK row row2 k) := Lib.hid fun h => by
        rw [HST.out, h]
        exact list_set_at (by rw [follK_at row row2 k (by rw [HM.out.2.1]; exact hkn), if_neg (by omega), ← ha])
      clear ha hb
      by_cases h3 : a = 3
      · subst h3
        have e3 : ((((3 : Nat)) : Int) == 3) = true := rfl
        by_cases g1 : b = 1
        · subst g1
          have HOW := Lib.hid HF.out.own
          go_wp2_with (have _h := HOW; refine wpList_setrow rfl 5 (.tmp 40) (.const (.int .u8 1)) rfl gM k 5 base 1 n c (u8s (follK row row2 k)) (.int .u8 1) rfl rfl HOW.out (by rw [u8s_length, follK_len, HM.out.2.1]; exact hkn) (by kernel_rfl) rfl ?_; clear _h HOW; intro w9 K9 o9 s9)
          have HE : Hid (Fol w W2 base (some ⟨gM, 0, none⟩) n c row row2 (k + 1) w9) := Lib.hid ⟨HF.out.o.trans o9 (fun x hx => .inl (by simp [rowOf, Value.ownBlock] at hx ⊢; exact hx)), by unfold Own; rw [HST.out, show fol1 3 1 = 1 from rfl, u8s_set]; exact K9⟩
          clear K9 o9 s9
          exact ⟨⟨k + 1, by go_num, by omega, HE.out⟩, by simp only [intOf]; omega⟩
        · have e1 : ((b : Int) == 1) = false := beq_eq_false_iff_ne.2 (by omega)
          by_cases g2 : b = 2
          · subst g2
            have HOW := Lib.hid HF.out.own
            go_wp2_with (have _h := HOW; refine wpList_setrow rfl 5 (.tmp 40) (.const (.int .u8 1)) rfl gM k 5 base 1 n c (u8s (follK row row2 k)) (.int .u8 1) rfl rfl HOW.out (by rw [u8s_length, follK_len, HM.out.2.1]; exact hkn) (by kernel_rfl) rfl ?_; clear _h HOW; intro w9 K9 o9 s9)
            have HE : Hid (Fol w W2 base (some ⟨gM, 0, none⟩) n c row row2 (k + 1) w9) := Lib.hid ⟨HF.out.o.trans o9 (fun x hx => .inl (by simp [rowOf, Value.ownBlock] at hx ⊢; exact hx)), by unfold Own; rw [HST.out, show fol1 3 2 = 1 from rfl, u8s_set]; exact K9⟩
            clear K9 o9 s9
            exact ⟨⟨k + 1, by go_num, by omega, HE.out⟩, by simp only [intOf]; omega⟩
          · have e2 : ((b : Int) == 2) = false := beq_eq_false_iff_ne.2 (by omega)
            go_wp2
            exact ⟨⟨k + 1, by go_num, by omega, HF.out.o, by rw [HSM.out (by unfold fol1; rw [if_neg (by omega)])]; exact HF.out.own⟩, by simp only [intOf]; omega⟩
      · have e3 : ((a : Int) == 3) = false := beq_eq_false_iff_ne.2 (by omega)
        go_wp2
        exact ⟨⟨k + 1, by go_num, by omega, HF.out.o, by rw [HSM.out (by unfold fol1; rw [if_neg (by omega)])]; exact HF.out.own⟩, by simp only [intOf]; omega⟩
    · have d1 : decide ((k : Int) < (m : Int)) = false := decide_eq_false (by omega)
      obtain rfl : k = m := by omega
      have HRES : Hid (Only (rowOf (.slice M 0 0)) w wr.drew ∧ Own wr.drew base (.slice M n c) n (follM row row2)) := Lib.hid ⟨((Only.of_below HB.out.1 _).trans HF.out.o (fun x hx => .inl hx)).drew, by
        have h := HF.out.own
        rw [follK_all row row2 (by rw [HM.out.2.1, HM.out.2.2.1]; exact HM.out.1)] at h
        exact h⟩
      have HCL : Hid (∀ W', Below wr.heap.size wr W' → W'.cell? ⟨w.heap.size, 1, none⟩ = some (.pointer (some ⟨gp, jp, none⟩)) ∧ W'.cell? ⟨w.heap.size + 1, 1, none⟩ = some (.pointer (some ⟨gq, jq, none⟩)) ∧ W'.cell? ⟨gp, jp, none⟩ = some (.bool b1) ∧ W'.cell? ⟨gq, jq, none⟩ = some (.bool b2) ∧ W'.there gp jp 1) := Lib.hid fun W' hW' => by
        have o2 : Only (rowOf (.slice M 0 0)) W2 W' := HF.out.o.trans (Only.of_below hW' _) (fun x hx => .inl hx)
        exact ⟨(HK.out W' o2).1.cell 1, (HK.out W' o2).2.cell 1, HP.out W' o2⟩
      go_upto_region 7 with (fail)
      have hS : Below wr.heap.size wr wr.drew := (Below.refl _ wr).drew
      cases b1 with
      | true =>
        refine any_beginL (fun W' => Below wr.heap.size wr W') 13 (by kernel_rfl) ?_
        refine L_take (i := 0) (v := .pointer (some ⟨w.heap.size, 1, none⟩)) rfl rfl (by kernel_rfl) (by kernel_rfl) (by kernel_rfl) (by kernel_rfl) (fun _ _ _ h => h) (Or.inl ⟨by rfl, fun W' hw => by go_simp⟩) hS ?_
        simp only [Act.put, List.getElem_toArray, List.getElem_cons_succ, List.getElem_cons_zero, List.setIfInBounds_toArray, List.set_cons_zero, List.set_cons_succ]
        refine L_take (i := 1) (v := .pointer (some ⟨gp, jp, none⟩)) rfl rfl (by kernel_rfl) (by kernel_rfl) (by kernel_rfl) (by kernel_rfl) (fun _ _ _ h => h) (Or.inl ⟨by rfl, fun W' hw => by have k1 := (HCL.out W' hw).1; go_simp⟩) hS ?_
        simp only [Act.put, List.getElem_toArray, List.getElem_cons_succ, List.getElem_cons_zero, List.setIfInBounds_toArray, List.set_cons_zero, List.set_cons_succ]
        refine L_take (i := 2) (v := .pointer (some ⟨w.heap.size, 1, none⟩)) rfl rfl (by kernel_rfl) (by kernel_rfl) (by kernel_rfl) (by kernel_rfl) (fun _ _ _ h => h) (Or.inl ⟨by rfl, fun W' hw => by go_simp⟩) hS ?_
        simp only [Act.put, List.getElem_toArray, List.getElem_cons_succ, List.getElem_cons_zero, List.setIfInBounds_toArray, List.set_cons_zero, List.set_cons_succ]
        refine L_take (i := 3) (v := .pointer (some ⟨gp, jp, none⟩)) rfl rfl (by kernel_rfl) (by kernel_rfl) (by kernel_rfl) (by kernel_rfl) (fun _ _ _ h => h) (Or.inl ⟨by rfl, fun W' hw => by have k1 := (HCL.out W' hw).1; go_simp⟩) hS ?_
        simp only [Act.put, List.getElem_toArray, List.getElem_cons_succ, List.getElem_cons_zero, List.setIfInBounds_toArray, List.set_cons_zero, List.set_cons_succ]
        refine L_take (i := 4) (v := .pointer (some ⟨gp, jp, none⟩)) rfl rfl (by kernel_rfl) (by kernel_rfl) (by kernel_rfl) (by kernel_rfl) (fun _ _ _ h => h) (Or.inl ⟨by rfl, fun W' hw => by go_simp⟩) hS ?_
        simp only [Act.put, List.getElem_toArray, List.getElem_cons_succ, List.getElem_cons_zero, List.setIfInBounds_toArray, List.set_cons_zero, List.set_cons_succ]
        refine L_take (i := 5) (v := .bool true) rfl rfl (by kernel_rfl) (by kernel_rfl) (by kernel_rfl) (by kernel_rfl) (fun _ _ _ h => h) (Or.inl ⟨by rfl, fun W' hw => by have k1 := (HCL.out W' hw).2.2.1; go_simp⟩) hS ?_
        simp only [Act.put, List.getElem_toArray, List.getElem_cons_succ, List.getElem_cons_zero, List.setIfInBounds_toArray, List.set_cons_zero, List.set_cons_succ]
        refine L_take (i := 6) (v := .bool true) rfl rfl (by kernel_rfl) (by kernel_rfl) (by kernel_rfl) (by kernel_rfl) (fun _ _ _ h => h) (Or.inl ⟨by rfl, fun W' hw => by go_simp⟩) hS ?_
        simp only [Act.put, List.getElem_toArray, List.getElem_cons_succ, List.getElem_cons_zero, List.setIfInBounds_toArray, List.set_cons_zero, List.set_cons_succ]
        refine L_take (i := 7) (v := .pointer (some ⟨w.heap.size + 1, 1, none⟩)) rfl rfl (by kernel_rfl) (by kernel_rfl) (by kernel_rfl) (by kernel_rfl) (fun _ _ _ h => h) (Or.inl ⟨by rfl, fun W' hw => by go_simp⟩) hS ?_
        simp only [Act.put, List.getElem_toArray, List.getElem_cons_succ, List.getElem_cons_zero, List.setIfInBounds_toArray, List.set_cons_zero, List.set_cons_succ]
        refine L_take (i := 8) (v := .pointer (some ⟨gq, jq, none⟩)) rfl rfl (by kernel_rfl) (by kernel_rfl) (by kernel_rfl) (by kernel_rfl) (fun _ _ _ h => h) (Or.inl ⟨by rfl, fun W' hw => by have k1 := (HCL.out W' hw).2.1; go_simp⟩) hS ?_
        simp only [Act.put, List.getElem_toArray, List.getElem_cons_succ, List.getElem_cons_zero, List.setIfInBounds_toArray, List.set_cons_zero, List.set_cons_succ]
        refine L_take (i := 9) (v := .pointer (some ⟨gq, jq, none⟩)) rfl rfl (by kernel_rfl) (by kernel_rfl) (by kernel_rfl) (by kernel_rfl) (fun _ _ _ h => h) (Or.inl ⟨by rfl, fun W' hw => by go_simp⟩) hS ?_
        simp only [Act.put, List.getElem_toArray, List.getElem_cons_succ, List.getElem_cons_zero, List.setIfInBounds_toArray, List.set_cons_zero, List.set_cons_succ]
        refine L_take (i := 10) (v := .bool b2) rfl rfl (by kernel_rfl) (by kernel_rfl) (by kernel_rfl) (by kernel_rfl) (fun _ _ _ h => h) (Or.inl ⟨by rfl, fun W' hw => by have k1 := (HCL.out W' hw).2.2.2.1; go_simp⟩) hS ?_
        simp only [Act.put, List.getElem_toArray, List.getElem_cons_succ, List.getElem_cons_zero, List.setIfInBounds_toArray, List.set_cons_zero, List.set_cons_succ]
        refine L_take (i := 11) (v := .bool b2) rfl rfl (by kernel_rfl) (by kernel_rfl) (by kernel_rfl) (by kernel_rfl) (fun _ _ _ h => h) (Or.inl ⟨by rfl, fun W' hw => by go_simp⟩) hS ?_
        simp only [Act.put, List.getElem_toArray, List.getElem_cons_succ, List.getElem_cons_zero, List.setIfInBounds_toArray, List.set_cons_zero, List.set_cons_succ]
        refine L_take (i := 12) (v := .pointer (some ⟨gp, jp, none⟩)) rfl rfl (by kernel_rfl) (by kernel_rfl) (by kernel_rfl) (by kernel_rfl) (fun _ _ _ h => h) (Or.inl ⟨by rfl, fun W' hw => by go_simp⟩) hS ?_
        simp only [Act.put, List.getElem_toArray, List.getElem_cons_succ, List.getElem_cons_zero, List.setIfInBounds_toArray, List.set_cons_zero, List.set_cons_succ]
        refine L_last (by kernel_rfl) rfl (by rfl) (by kernel_rfl) ?_
        simp only [Act.put, List.getElem_toArray, List.getElem_cons_succ, List.getElem_cons_zero, List.setIfInBounds_toArray, List.set_cons_zero, List.set_cons_succ]
        refine wp_setth 4 (.tmp 54) (.tmp 53) rfl gp jp (.bool b2) rfl rfl (HCL.out _ hS).2.2.2.2 (by kernel_rfl) rfl ?_
        refine NoPanic.normal ?_
        clear hS
        go_wp2
        refine bodyPost_end (results_none rfl _ _ _) rfl ?_
        exact ⟨rfl, wr.drew, HRES.out.1, HRES.out.2, rfl⟩
      | false =>
        refine any_beginL (fun W' => Below wr.heap.size wr W') 13 (by kernel_rfl) ?_
        refine L_take (i := 0) (v := .pointer (some ⟨w.heap.size, 1, none⟩)) rfl rfl (by kernel_rfl) (by kernel_rfl) (by kernel_rfl) (by kernel_rfl) (fun _ _ _ h => h) (Or.inl ⟨by rfl, fun W' hw => by go_simp⟩) hS ?_
        simp only [Act.put, List.getElem_toArray, List.getElem_cons_succ, List.getElem_cons_zero, List.setIfInBounds_toArray, List.set_cons_zero, List.set_cons_succ]
        refine L_take (i := 1) (v := .pointer (some ⟨gp, jp, none⟩)) rfl rfl (by kernel_rfl) (by kernel_rfl) (by kernel_rfl) (by kernel_rfl) (fun _ _ _ h => h) (Or.inl ⟨by rfl, fun W' hw => by have k1 := (HCL.out W' hw).1; go_simp⟩) hS ?_
        simp only [Act.put, List.getElem_toArray, List.getElem_cons_succ, List.getElem_cons_zero, List.setIfInBounds_toArray, List.set_cons_zero, List.set_cons_succ]
        refine L_take (i := 2) (v := .pointer (some ⟨w.heap.size, 1, none⟩)) rfl rfl (by kernel_rfl) (by kernel_rfl) (by kernel_rfl) (by kernel_rfl) (fun _ _ _ h => h) (Or.inl ⟨by rfl, fun W' hw => by go_simp⟩) hS ?_
        simp only [Act.put, List.getElem_toArray, List.getElem_cons_succ, List.getElem_cons_zero, List.setIfInBounds_toArray, List.set_cons_zero, List.set_cons_succ]
        refine L_take (i := 3) (v := .pointer (some ⟨gp, jp, none⟩)) rfl rfl (by kernel_rfl) (by kernel_rfl) (by kernel_rfl) (by kernel_rfl) (fun _ _ _ h => h) (Or.inl ⟨by rfl, fun W' hw => by have k1 := (HCL.out W' hw).1; go_simp⟩) hS ?_
        simp only [Act.put, List.getElem_toArray, List.getElem_cons_succ, List.getElem_cons_zero, List.setIfInBounds_toArray, List.set_cons_zero, List.set_cons_succ]
        refine L_take (i := 4) (v := .pointer (some ⟨gp, jp, none⟩)) rfl rfl (by kernel_rfl) (by kernel_rfl) (by kernel_rfl) (by kernel_rfl) (fun _ _ _ h => h) (Or.inl ⟨by rfl, fun W' hw => by go_simp⟩) hS ?_
        simp only [Act.put, List.getElem_toArray, List.getElem_cons_succ, List.getElem_cons_zero, List.setIfInBounds_toArray, List.set_cons_zero, List.set_cons_succ]
        refine L_take (i := 5) (v := .bool false) rfl rfl (by kernel_rfl) (by kernel_rfl) (by kernel_rfl) (by kernel_rfl) (fun _ _ _ h => h) (Or.inl ⟨by rfl, fun W' hw => by have k1 := (HCL.out W' hw).2.2.1; go_simp⟩) hS ?_
        simp only [Act.put, List.getElem_toArray, List.getElem_cons_succ, List.getElem_cons_zero, List.setIfInBounds_toArray, List.set_cons_zero, List.set_cons_succ]
        refine L_take (i := 6) (v := .bool false) rfl rfl (by kernel_rfl) (by kernel_rfl) (by kernel_rfl) (by kernel_rfl) (fun _ _ _ h => h) (Or.inl ⟨by rfl, fun W' hw => by go_simp⟩) hS ?_
        simp only [Act.put, List.getElem_toArray, List.getElem_cons_succ, List.getElem_cons_zero, List.setIfInBounds_toArray, List.set_cons_zero, List.set_cons_succ]
        refine L_take (i := 7) (v := undef) rfl rfl (by kernel_rfl) (by kernel_rfl) (by kernel_rfl) (by kernel_rfl) (fun _ _ _ h => h) (Or.inr ⟨by rfl, rfl⟩) hS ?_
        simp only [Act.put, List.getElem_toArray, List.getElem_cons_succ, List.getElem_cons_zero, List.setIfInBounds_toArray, List.set_cons_zero, List.set_cons_succ]
        refine L_take (i := 8) (v := undef) rfl rfl (by kernel_rfl) (by kernel_rfl) (by kernel_rfl) (by kernel_rfl) (fun _ _ _ h => h) (Or.inr ⟨by rfl, rfl⟩) hS ?_
        simp only [Act.put, List.getElem_toArray, List.getElem_cons_succ, List.getElem_cons_zero, List.setIfInBounds_toArray, List.set_cons_zero, List.set_cons_succ]
        refine L_take (i := 9) (v := undef) rfl rfl (by kernel_rfl) (by kernel_rfl) (by kernel_rfl) (by kernel_rfl) (fun _ _ _ h => h) (Or.inr ⟨by rfl, rfl⟩) hS ?_
        simp only [Act.put, List.getElem_toArray, List.getElem_cons_succ, List.getElem_cons_zero, List.setIfInBounds_toArray, List.set_cons_zero, List.set_cons_succ]
        refine L_take (i := 10) (v := undef) rfl rfl (by kernel_rfl) (by kernel_rfl) (by kernel_rfl) (by kernel_rfl) (fun _ _ _ h => h) (Or.inr ⟨by rfl, rfl⟩) hS ?_
        simp only [Act.put, List.getElem_toArray, List.getElem_cons_succ, List.getElem_cons_zero, List.setIfInBounds_toArray, List.set_cons_zero, List.set_cons_succ]
        refine L_take (i := 11) (v := .bool false) rfl rfl (by kernel_rfl) (by kernel_rfl) (by kernel_rfl) (by kernel_rfl) (fun _ _ _ h => h) (Or.inl ⟨by rfl, fun W' hw => by go_simp⟩) hS ?_
        simp only [Act.put, List.getElem_toArray, List.getElem_cons_succ, List.getElem_cons_zero, List.setIfInBounds_toArray, List.set_cons_zero, List.set_cons_succ]
        refine L_take (i := 12) (v := .pointer (some ⟨gp, jp, none⟩)) rfl rfl (by kernel_rfl) (by kernel_rfl) (by kernel_rfl) (by kernel_rfl) (fun _ _ _ h => h) (Or.inl ⟨by rfl, fun W' hw => by go_simp⟩) hS ?_
        simp only [Act.put, List.getElem_toArray, List.getElem_cons_succ, List.getElem_cons_zero, List.setIfInBounds_toArray, List.set_cons_zero, List.set_cons_succ]
        refine L_last (by kernel_rfl) rfl (by rfl) (by kernel_rfl) ?_
        simp only [Act.put, List.getElem_toArray, List.getElem_cons_succ, List.getElem_cons_zero, List.setIfInBounds_toArray, List.set_cons_zero, List.set_cons_succ]
        refine wp_setth 4 (.tmp 54) (.tmp 53) rfl gp jp (.bool false) rfl rfl (HCL.out _ hS).2.2.2.2 (by kernel_rfl) rfl ?_
        refine NoPanic.normal ?_
        clear hS
        go_wp2
        refine bodyPost_end (results_none rfl _ _ _) rfl ?_
        exact ⟨rfl, wr.drew, HRES.out.1, HRES.out.2, rfl⟩
end Go.Proofs.Ytiimanoloedbeaa

/-
  A copy of a head, behind a view that took over another's marks; a snapshot is removed. Conditions: the copy is the call's own, its rows lie in blocks of their own.
-/
namespace Go.Proofs.Ytiimanoloedbeaa
open Go.RowKit Go.BigFrame
set_option linter.unusedSimpArgs false
set_option linter.unusedVariables false
set_option maxRecDepth 100000
theorem mrows_apart : ∀ {l : List SA}, (mrows l).Nodup → ∀ {i j : Nat} {s t : SA}, l[i]? = some s → l[j]? = some t → i ≠ j → ∀ {k : Nat}, k ∈ rowOf (.slice s.vw.M 0 0) → k ∉ rowOf (.slice t.vw.M 0 0)
  | [], _, i, j, s, t, hi, _, _, k, _ => by cases i <;> cases hi
  | a :: r, h, i, j, s, t, hi, hj, hne, k, hk => by
    have h2 : (rowOf (.slice a.vw.M 0 0) ++ mrows r).Nodup := h
    obtain ⟨n1, n2, n3⟩ := List.nodup_append.1 h2
    cases i with
    | zero =>
      cases j with
      | zero => exact absurd rfl hne
      | succ j =>
        simp at hi hj
        subst hi
        intro hm
        exact n3 k hk k (List.mem_flatMap.2 ⟨t, List.mem_of_getElem? hj, hm⟩) rfl
    | succ i =>
      cases j with
      | zero =>
        simp at hi hj
        subst hj
        intro hm
        exact n3 k hm k (List.mem_flatMap.2 ⟨s, List.mem_of_getElem? hi, hk⟩) rfl
      | succ j =>
        simp at hi hj
        exact mrows_apart n2 hi hj (by omega) hk
theorem HA.Dj.far {c : HA} (h : c.Dj) {x : SA} (hx : x ∈ c.sn) {k : Nat} (hk : k ∈ rowOf (.slice x.vw.M 0 0)) : k ∉ rowOf (.slice c.vw.M 0 0) := fun hm =>
  (List.nodup_append.1 h.m).2.2 k hm k (List.mem_flatMap.2 ⟨x, hx, hk⟩) rfl
theorem row_any {M : Option Addr} {n c k : Nat} (h : k ∈ rowOf (.slice M 0 0)) : k ∈ rowOf (.slice M n c) := by rwa [row_slice M n c 0 0]
/-- behind new marks of the head's own row -/
theorem foll_head {W w1 : World} {base g : Nat} {c : HA} {row : List Nat} (b : Bool) (hb : base ≤ W.heap.size) (hg : base ≤ g) (k : Blk W g 36 c.cs) (hN : c.N W base []) (hdj : c.Dj) (hl : row.length = c.vw.row.length) (hlt : ∀ x ∈ row, x < 256) (o : Only (rowOf (.slice c.vw.M 0 0)) W w1) (ho : Own w1 base (.slice c.vw.M c.vw.row.length c.vw.cm) c.vw.row.length row) :
    Blk (w1.setCell ⟨g, 6, none⟩ (.bool b)) g 36 ({ c with vw := { c.vw with row := row, good := b } } : HA).cs ∧ ({ c with vw := { c.vw with row := row, good := b } } : HA).N (w1.setCell ⟨g, 6, none⟩ (.bool b)) base [] ∧ Below base W (w1.setCell ⟨g, 6, none⟩ (.bool b)) := by
  have hty : ∀ {q : Nat} {t : TypeId} {cs : Array Value}, Blk W q t cs → t ≠ 5 → q ∉ rowOf (.slice c.vw.M 0 0) := fun kq hne h => by obtain ⟨cs, kb⟩ := hN.vw.ty h; exact kb.ne_ kq (Ne.symm hne) rfl
  have k1 := k.only o (hty k (by decide))
  have o2 : Only [g] w1 (w1.setCell ⟨g, 6, none⟩ (.bool b)) := (Only.refl _ _).setCell (.inl (by simp)) _
  have n1 : ({ c with vw := { c.vw with row := row, good := b } } : HA).N w1 base [] := by
    refine ⟨⟨?_, fun _ _ h => (by cases h), hlt, hN.vw.par, hN.vw.size, hN.vw.ps, hN.vw.ov, hN.vw.pl⟩, fun x hx => (hN.sn x hx).of (fun q hq => o.block q ((hN.sn x hx).vw.under hq) (hdj.far hx hq)) (fun q hq => ?_), row_of hN.own fun q hq => ?_, hN.id, hN.obj, hN.seq, hN.ow, hN.it, hN.tg⟩
    · show Own w1 base (.slice c.vw.M row.length c.vw.cm) row.length row
      rw [hl]; exact ho
    · obtain ⟨cs, kb⟩ := (hN.sn x hx).ty hq
      exact o.block q kb.lt (hty kb (by decide))
    · obtain ⟨cs, kb⟩ := own_ty hN.own hq
      exact o.block q kb.lt (hty kb (by decide))
  refine ⟨?_, n1.stay k1 o2, (o.below (fun q hq => row_over hN.vw.own q (row_any hq)) hb).trans (o2.below (fun q hq => by simp at hq; omega) (Nat.le_trans hb o.size))⟩
  have k2 := k1.set_ 6 (.bool b)
  unfold HA.cs at k2 ⊢
  simp only [hl]
  exact k2
/-- behind new marks of a snapshot's own row -/
theorem foll_snap {W w1 : World} {base g gS j : Nat} {c : HA} {x : SA} {row : List Nat} (b : Bool) (hb : base ≤ W.heap.size) (hg : base ≤ g) (k : Blk W g 36 c.cs) (hN : c.N W base []) (hdj : c.Dj) (hS : c.S = some ⟨gS, 0, none⟩) (hx : c.sn[j]? = some x) (hl : row.length = x.vw.row.length) (hlt : ∀ y ∈ row, y < 256) (o : Only (rowOf (.slice x.vw.M 0 0)) W w1) (ho : Own w1 base (.slice x.vw.M x.vw.row.length x.vw.cm) x.vw.row.length row) :
    Blk (w1.setCell ⟨gS, j * 11 + 4, none⟩ (.bool b)) g 36 ({ c with sn := c.sn.set j { x with vw := { x.vw with row := row, good := b } } } : HA).cs ∧ ({ c with sn := c.sn.set j { x with vw := { x.vw with row := row, good := b } } } : HA).N (w1.setCell ⟨gS, j * 11 + 4, none⟩ (.bool b)) base [] ∧ Below base W (w1.setCell ⟨gS, j * 11 + 4, none⟩ (.bool b)) := by
  have hxm := List.mem_of_getElem? hx
  have hxN := hN.sn x hxm
  have hty : ∀ {q : Nat} {t : TypeId} {cs : Array Value}, Blk W q t cs → t ≠ 5 → q ∉ rowOf (.slice x.vw.M 0 0) := fun kq hne h => by obtain ⟨cs, kb⟩ := hxN.vw.ty h; exact kb.ne_ kq (Ne.symm hne) rfl
  obtain ⟨csS, kS⟩ := own_ty hN.own (k := gS) (by rw [hS]; simp [rowOf, Value.ownBlock])
  have hge : base ≤ gS := (World.ownsRow.lt hN.own gS (by rw [hS]; rfl)).1
  have k1 := k.only o (hty k (by decide))
  have kS1 := kS.only o (hty kS (by decide))
  have o2 : Only [gS] w1 (w1.setCell ⟨gS, j * 11 + 4, none⟩ (.bool b)) := (Only.refl _ _).setCell (.inl (by simp)) _
  have st := stay_only kS1 (by decide) (by decide) o2
  have hlen : (c.sn.set j { x with vw := { x.vw with row := row, good := b } }).length = c.sn.length := by simp
  have ho1 : w1.ownsRow base 66 11 (.slice (some ⟨gS, 0, none⟩) c.sn.length c.cs') c.sn.length (c.sn.flatMap SA.cells) := by
    rw [← hS]
    exact row_of hN.own fun q hq => by obtain ⟨cs, kb⟩ := own_ty hN.own hq; exact o.block q kb.lt (hty kb (by decide))
  refine ⟨?_, ⟨?_, fun y hy => ?_, ?_, hN.id, hN.obj, hN.seq, hN.ow, hN.it, hN.tg⟩, (o.below (fun q hq => row_over hxN.vw.own q (row_any hq)) hb).trans (o2.below (fun q hq => by simp at hq; omega) (Nat.le_trans hb o.size))⟩
  · have k2 := k1.only o2 (by intro h; simp at h; subst h; exact k1.ne_ kS1 (by decide) rfl)
    unfold HA.cs at k2 ⊢
    simp only [hlen]
    exact k2
  · exact (hN.vw.of fun q hq => o.block q (hN.vw.under hq) (fun h => hdj.far hxm h hq)).stay st
  · have hy2 : y = { x with vw := { x.vw with row := row, good := b } } ∨ ∃ i, i ≠ j ∧ c.sn[i]? = some y := by
      obtain ⟨i, hi⟩ := List.getElem?_of_mem hy
      by_cases hij : i = j
      · subst hij
        left
        rw [List.getElem?_set_self (List.getElem?_eq_some_iff.1 hx).1] at hi
        injection hi with hi
        exact hi.symm
      · rw [List.getElem?_set_ne (Ne.symm hij)] at hi
        exact .inr ⟨i, hij, hi⟩
    rcases hy2 with rfl | ⟨i, hij, hi⟩
    · refine SA.N.stay ⟨⟨?_, fun _ _ h => (by cases h), hlt, hxN.vw.par, hxN.vw.size, hxN.vw.ps, hxN.vw.ov, hxN.vw.pl⟩, row_of hxN.own fun q hq => ?_, fun _ _ h => (by cases h), hxN.ok, hxN.name, hxN.num, hxN.nl⟩ st
      · show Own w1 base (.slice x.vw.M row.length x.vw.cm) row.length row
        rw [hl]; exact ho
      · obtain ⟨cs, kb⟩ := own_ty hxN.own hq
        exact o.block q kb.lt (hty kb (by decide))
    · have hyN := hN.sn y (List.mem_of_getElem? hi)
      exact (hyN.of (fun q hq => o.block q (hyN.vw.under hq) (mrows_apart (List.nodup_append.1 hdj.m).2.1 hi hx hij hq)) (fun q hq => by obtain ⟨cs, kb⟩ := hyN.ty hq; exact o.block q kb.lt (hty kb (by decide)))).stay st
  · show (w1.setCell _ _).ownsRow base 66 11 (.slice c.S (c.sn.set j _).length c.cs') (c.sn.set j _).length _
    rw [hlen, hS, ← flat_set_at c.sn j 4 x { x with vw := { x.vw with row := row, good := b } } (.bool b) hx (by omega) (by unfold SA.cells; simp only [hl]; rfl)]
    exact own_set ho1 _ _
/-- behind the deletion of a snapshot -/
theorem del_snap {W w1 w2 : World} {base g gS i : Nat} {c : HA} (hb : base ≤ W.heap.size) (hg : base ≤ g) (k : Blk W g 36 c.cs) (hN : c.N W base []) (hS : c.S = some ⟨gS, 0, none⟩) (hi : i < c.sn.length)
    (ho : w1.ownsRow base 66 11 (.slice (some ⟨gS, 0, none⟩) (c.sn.length - 1) c.cs') (c.sn.length - 1) ((c.sn.eraseIdx i).flatMap SA.cells)) (o : Only [gS] W w1) (k2 : Blk w2 g 36 #[.int .i64 c.id, .int .i64 c.vw.size, .int .i64 c.obj, .int .i64 c.seq, .slice (some ⟨gS, 0, none⟩) (c.sn.length - 1) c.cs', .bool c.vw.on, .bool c.vw.good, .slice c.vw.M c.vw.row.length c.vw.cm, .string (strOf c.vw.par), .int .i64 c.vw.ps, .int .i64 c.vw.ov, .int .i64 c.ow, .int .i64 c.it, .int .i64 c.tg]) (o2 : Only [g] w1 w2) :
    Blk w2 g 36 ({ c with sn := c.sn.eraseIdx i } : HA).cs ∧ ({ c with sn := c.sn.eraseIdx i } : HA).N w2 base [] ∧ Below base W w2 := by
  obtain ⟨csS, kS⟩ := own_ty hN.own (k := gS) (by rw [hS]; simp [rowOf, Value.ownBlock])
  have hge : base ≤ gS := (World.ownsRow.lt hN.own gS (by rw [hS]; rfl)).1
  have k1 := k.only o (by intro h; simp at h; subst h; exact k.ne_ kS (by decide) rfl)
  have st := stay_only kS (by decide) (by decide) o
  have hlen : (c.sn.eraseIdx i).length = c.sn.length - 1 := by rw [List.length_eraseIdx, if_pos hi]
  refine ⟨?_, HA.N.stay ⟨hN.vw.stay st, fun y hy => (hN.sn y ((List.eraseIdx_sublist c.sn i).subset hy)).stay st, ?_, hN.id, hN.obj, hN.seq, hN.ow, hN.it, hN.tg⟩ k1 o2, (o.below (fun q hq => by simp at hq; omega) hb).trans (o2.below (fun q hq => by simp at hq; omega) (Nat.le_trans hb o.size))⟩
  · unfold HA.cs
    simp only [hlen, hS]
    exact k2
  · show w1.ownsRow base 66 11 (.slice c.S (c.sn.eraseIdx i).length c.cs') (c.sn.eraseIdx i).length _
    rw [hlen, hS]
    exact ho
end Go.Proofs.Ytiimanoloedbeaa

/-
  A snapshot is removed from a copy of a head (remove). Conditions: the copy is the call's own, its rows lie in blocks of their own.
-/
namespace Go.Proofs.Ytiimanoloedbeaa
open Go.RowKit Go.BigFrame
set_option linter.unusedSimpArgs false
set_option linter.unusedVariables false
set_option maxRecDepth 100000
theorem map_erase {α β : Type} (f : α → β) : ∀ (l : List α) (i : Nat), (l.eraseIdx i).map f = (l.map f).eraseIdx i
  | [], i => by simp
  | a :: l, 0 => by simp
  | a :: l, i + 1 => by simp [map_erase f l i]
theorem remV_last {v : HdV} {i : Nat} {s : SnV} (h : v.sn[i + 1]? = none) : remV v i s = { v with sn := v.sn.eraseIdx i, mx := follMx v.mx s.mx } := by unfold remV; rw [h]
theorem remV_mid {v : HdV} {i : Nat} {s n : SnV} (h : v.sn[i + 1]? = some n) : remV v i s = { v with sn := (v.sn.set (i + 1) (n.foll s.mx)).eraseIdx i } := by unfold remV; rw [h]
theorem follM_lt {m g : List Nat} (h : ∀ x ∈ m, x < 256) : ∀ x ∈ follM m g, x < 256 := fun x hx => by
  obtain ⟨i, _, rfl⟩ := List.mem_map.1 hx
  exact fol1_lt (mk_lt h i)
/-- what removing comes to -/
def RemTo (W : World) (base g : Nat) (c : HA) (i : Nat) (s : SA) (e : Ending) (w' : World) : Prop :=
  e = .returned (.tuple #[]) ∧ Below base W w' ∧ ∃ c' : HA, Blk w' g 36 c'.cs ∧ c'.N w' base [] ∧ c'.v = remV c.v i s.v
set_option maxHeartbeats 16000000 in
theorem remove_any (W : World) (base g i : Nat) (c : HA) (s : SA) (hb : base ≤ W.heap.size) (hg : base ≤ g) (k : Blk W g 36 c.cs) (hN : c.N W base []) (hdj : c.Dj) (hc : c.sn.length ≤ 1000) (hs : c.sn[i]? = some s) (hml : c.vw.row.length ≤ 1000000 ∧ ∀ x ∈ c.sn, x.vw.row.length ≤ 1000000) :
    Calls Try.prog 130 #[.pointer (some ⟨g, 0, none⟩), .int .i64 (i : Int)] W (RemTo W base g c i s) := by
  obtain ⟨gS, hS, hgS, hgW, -⟩ := sn_at hN hs
  obtain ⟨n, hn⟩ : ∃ n, n = c.sn.length := ⟨_, rfl⟩
  have hin : i < n := by rw [hn]; exact (List.getElem?_eq_some_iff.1 hs).1
  have HOH : Hid (∀ W', Below W.heap.size W W' → Calls Try.prog 133 #[.pointer (some ⟨g, 0, none⟩)] W' fun e w' => e = .returned (.agg #[.bool c.vw.on, .pointer (some ⟨g, 6, none⟩), .slice c.vw.M c.vw.row.length c.vw.cm]) ∧ Below W'.heap.size W' w') := Lib.hid fun W' hW' => ofhead_any W' g c (k.of (hW'.block _ k.lt))
  have HOS : Hid (∀ W', Below W.heap.size W W' → ∀ (j : Nat) (x : SA), c.sn[j]? = some x → Calls Try.prog 134 #[.pointer (some ⟨gS, j * 11, none⟩)] W' fun e w' => e = .returned (.agg #[.bool x.vw.on, .pointer (some ⟨gS, j * 11 + 4, none⟩), .slice x.vw.M x.vw.row.length x.vw.cm]) ∧ Below W'.heap.size W' w') := Lib.hid fun W' hW' j x hx => by
    obtain ⟨gS', hS', -, -, hcl⟩ := sn_at hN hx
    obtain rfl : gS' = gS := by rw [hS] at hS'; injection hS' with h; injection h with h; exact h.symm
    exact ofsnap_any W' gS' (j * 11) x (Nat.lt_of_lt_of_le hgW hW'.size) ((hW'.cell (by show gS' < _; exact hgW)).trans (hcl 3 _ rfl)) ((hW'.cell (by show gS' < _; exact hgW)).trans (hcl 6 _ rfl))
  have HBX : Hid (∀ W', Below W.heap.size W W' → Blk W' g 36 #[.int .i64 c.id, .int .i64 c.vw.size, .int .i64 c.obj, .int .i64 c.seq, .slice (some ⟨gS, 0, none⟩) n c.cs', .bool c.vw.on, .bool c.vw.good, .slice c.vw.M c.vw.row.length c.vw.cm, .string (strOf c.vw.par), .int .i64 c.vw.ps, .int .i64 c.vw.ov, .int .i64 c.ow, .int .i64 c.it, .int .i64 c.tg]) := Lib.hid fun W' hW' => by
    have k1 : Blk W g 36 #[.int .i64 c.id, .int .i64 c.vw.size, .int .i64 c.obj, .int .i64 c.seq, .slice c.S c.sn.length c.cs', .bool c.vw.on, .bool c.vw.good, .slice c.vw.M c.vw.row.length c.vw.cm, .string (strOf c.vw.par), .int .i64 c.vw.ps, .int .i64 c.vw.ov, .int .i64 c.ow, .int .i64 c.it, .int .i64 c.tg] := k
    rw [hS, ← hn] at k1
    exact k1.of (hW'.block _ k.lt)
  have HCL : Hid (∀ W', Below W.heap.size W W' → ∀ (j : Nat) (x : SA), c.sn[j]? = some x → W'.cell? ⟨gS, j * 11 + 4, none⟩ = some (.bool x.vw.good) ∧ W'.there gS (j * 11 + 4) 1) := Lib.hid fun W' hW' j x hx => by
    obtain ⟨gS', hS', -, -, hcl⟩ := sn_at hN hx
    obtain rfl : gS' = gS := by rw [hS] at hS'; injection hS' with h; injection h with h; exact h.symm
    have h4 := (hW'.cell (by show gS' < _; exact hgW)).trans (hcl 4 _ rfl)
    refine ⟨h4, fun q hq => ?_⟩
    obtain rfl : q = 0 := by omega
    refine ⟨by rw [Nat.add_zero, h4]; rfl, ?_⟩
    have ho := (hN.below hW').own
    rw [hS] at ho
    exact own_frozen ho _
  have HK := Lib.hid (And.intro k (And.intro hN (And.intro hb (And.intro hg (And.intro hdj (And.intro hS (And.intro hs (And.intro hml (And.intro hgW hn)))))))))
  have hz0 := view_zero
  have hc9 : n ≤ 1000 := by rw [hn]; exact hc
  have hwi : IntKind.i64.wrap ((i : Int) + 1) = ((i + 1 : Nat) : Int) := by rw [IntKind.wrap_i64]; omega
  clear k hN hb hg hdj hS hs hml hgS hgW hn hc
  by_cases hlt : i + 1 < n
  · have d1 : decide (((i + 1 : Nat) : Int) < (n : Int)) = true := decide_eq_true (by omega)
    obtain ⟨x, hx⟩ : ∃ x, c.sn[i + 1]? = some x := ⟨_, List.getElem?_eq_getElem (by have := HK.out.2.2.2.2.2.2.2.2.2; omega)⟩
    have HX := Lib.hid hx
    clear hx
    go_enter Try.func130, Try.ntmps130
    go_wp2_with fail
    refine (HOH.out W (Below.refl _ _)).mono ?_
    rintro e w1 ⟨rfl, b1⟩
    obtain ⟨gv, hgv⟩ : ∃ gv, gv = w1.heap.size := ⟨_, rfl⟩
    have K1 : Blk (w1.alloc (.cells #[.bool false, .pointer none, .slice none 0 0] 163)) w1.heap.size 163 #[.bool false, .pointer none, .slice none 0 0] := Blk.new _ _ _
    have B1 : Hid (Below W.heap.size W (w1.alloc (.cells #[.bool false, .pointer none, .slice none 0 0] 163)) ∧ W.heap.size ≤ gv) := Lib.hid ⟨b1.alloc b1.size _, by rw [hgv]; exact b1.size⟩
    clear b1
    go_wp2_with (have _h := K1; refine wpList_storeq rfl 163 (.tmp 4) (.tmp 6) rfl w1.heap.size _ [.bool c.vw.on, .pointer (some ⟨g, 6, none⟩), .slice c.vw.M c.vw.row.length c.vw.cm] rfl rfl K1 (by simp) (by kernel_rfl) (by intro u hu; simp at hu; rcases hu with h | h | h <;> subst h <;> rfl) ?_; clear _h K1; intro w2 K2 o2 s2; have HB2 : Hid (Below W.heap.size W w2) := Lib.hid (B1.out.1.trans (o2.below (fun q hq => by simp at hq; have := B1.out.2; omega) B1.out.1.size)); have q4 : w2.cell? ⟨g, 4, none⟩ = some (.slice (some ⟨gS, 0, none⟩) n c.cs') := (HBX.out w2 HB2.out).cell 4)
    go_wp2_with fail
    refine (HOS.out w2 HB2.out (i + 1) x HX.out).mono ?_
    rintro e w3 ⟨rfl, b3⟩
    have K3 := K2.of (b3.block _ K2.lt)
    have hgv2 : w1.heap.size < w2.heap.size := K2.lt
    have HB3a : Hid (Below W.heap.size W w3) := Lib.hid (HB2.out.trans (b3.mono HB2.out.size))
    clear b3 K2 o2 s2 q4
    go_wp2_with (have _h := K3; refine wpList_storeq rfl 163 (.tmp 4) (.tmp 22) rfl w1.heap.size _ [.bool x.vw.on, .pointer (some ⟨gS, (i + 1) * 11 + 4, none⟩), .slice x.vw.M x.vw.row.length x.vw.cm] rfl rfl K3 (by simp) (by kernel_rfl) (by intro u hu; simp at hu; rcases hu with h | h | h <;> subst h <;> rfl) ?_; clear _h K3; intro w4 K4 o4 s4; have HB4 : Hid (Below W.heap.size W w4) := Lib.hid (HB3a.out.trans (o4.below (fun q hq => by simp at hq; have := B1.out.2; omega) HB3a.out.size)))
    have HFL : Hid (∀ W', Below W.heap.size W W' → Calls Try.prog 159 #[.agg #[.bool x.vw.on, .pointer (some ⟨gS, (i + 1) * 11 + 4, none⟩), .slice x.vw.M x.vw.row.length x.vw.cm], .agg #[.bool s.vw.on, .pointer (some ⟨gS, i * 11 + 4, none⟩), .slice s.vw.M s.vw.row.length s.vw.cm]] W' (FollTo W' base gS ((i + 1) * 11 + 4) x.vw.M x.vw.row.length x.vw.cm x.vw.row s.vw.row (x.vw.good && s.vw.good))) := Lib.hid fun W' hW' => by
      have hvN := (HK.out.2.1.sn x (List.mem_of_getElem? HX.out)).vw.below hW'
      have hsm := List.mem_of_getElem? HK.out.2.2.2.2.2.2.1
      have hsN := (HK.out.2.1.sn s hsm).below hW'
      have hty : ∀ {q : Nat} {t : TypeId} {cs : Array Value}, Blk W' q t cs → t ≠ 5 → q ∉ rowOf (.slice x.vw.M 0 0) := fun kq hne h => by obtain ⟨cs, kb⟩ := hvN.ty h; exact kb.ne_ kq (Ne.symm hne) rfl
      have kg := HK.out.1.of (hW'.block _ HK.out.1.lt)
      obtain ⟨csS, kS⟩ := own_ty (HK.out.2.1.below hW').own (k := gS) (by rw [HK.out.2.2.2.2.2.1]; simp [rowOf, Value.ownBlock])
      exact follow_any W' base gS ((i + 1) * 11 + 4) gS (i * 11 + 4) x.vw.row.length x.vw.cm s.vw.row.length s.vw.cm x.vw.M s.vw.M x.vw.on s.vw.on x.vw.good s.vw.good x.vw.row s.vw.row (HK.out.2.2.2.2.2.2.2.1.2 x (List.mem_of_getElem? HX.out)) (HK.out.2.2.2.2.2.2.2.1.2 s hsm) rfl rfl hvN.own hsN.vw.own hvN.ok hsN.vw.ok (fun q hq => mrows_apart (List.nodup_append.1 HK.out.2.2.2.2.1.m).2.1 HK.out.2.2.2.2.2.2.1 HX.out (by omega) hq) kS.lt kS.lt (hty kS (by decide)) (hty kS (by decide)) (HCL.out W' hW' (i + 1) x HX.out).1 (HCL.out W' hW' i s HK.out.2.2.2.2.2.2.1).1 (HCL.out W' hW' (i + 1) x HX.out).2 (Nat.le_trans HK.out.2.2.1 hW'.size)
    have HBW : Hid (Below W.heap.size W w4) := Lib.hid HB4.out
    have HB3 : Hid (∀ W', Below w4.heap.size w4 W' → Blk W' g 36 #[.int .i64 c.id, .int .i64 c.vw.size, .int .i64 c.obj, .int .i64 c.seq, .slice (some ⟨gS, 0, none⟩) n c.cs', .bool c.vw.on, .bool c.vw.good, .slice c.vw.M c.vw.row.length c.vw.cm, .string (strOf c.vw.par), .int .i64 c.vw.ps, .int .i64 c.vw.ov, .int .i64 c.ow, .int .i64 c.it, .int .i64 c.tg]) := Lib.hid fun W' hW' => HBX.out W' (HBW.out.trans (hW'.mono HBW.out.size))
    have HV3 : Hid (∀ W', Below w4.heap.size w4 W' → Blk W' w1.heap.size 163 #[.bool x.vw.on, .pointer (some ⟨gS, (i + 1) * 11 + 4, none⟩), .slice x.vw.M x.vw.row.length x.vw.cm]) := Lib.hid fun W' hW' => K4.of (hW'.block _ K4.lt)
    have HOS3 : Hid (∀ W', Below w4.heap.size w4 W' → Calls Try.prog 134 #[.pointer (some ⟨gS, i * 11, none⟩)] W' fun e w' => e = .returned (.agg #[.bool s.vw.on, .pointer (some ⟨gS, i * 11 + 4, none⟩), .slice s.vw.M s.vw.row.length s.vw.cm]) ∧ Below W'.heap.size W' w') := Lib.hid fun W' hW' => HOS.out W' (HBW.out.trans (hW'.mono HBW.out.size)) i s HK.out.2.2.2.2.2.2.1
    clear K4 o4 s4
    go_upto_region 3 with (fail)
    have hB : Below w4.heap.size w4 w4.drew := (Below.refl _ w4).drew
    have hS : w4.drew.cell? ⟨g, 4, none⟩ = some (.slice (some ⟨gS, 0, none⟩) n c.cs') ∧ Blk w4.drew w1.heap.size 163 #[.bool x.vw.on, .pointer (some ⟨gS, (i + 1) * 11 + 4, none⟩), .slice x.vw.M x.vw.row.length x.vw.cm] := ⟨by have k1 := HB3.out _ hB; exact k1.cell 4, HV3.out _ hB⟩
    refine any_beginL (fun W' => W'.cell? ⟨g, 4, none⟩ = some (.slice (some ⟨gS, 0, none⟩) n c.cs') ∧ Blk W' w1.heap.size 163 #[.bool x.vw.on, .pointer (some ⟨gS, (i + 1) * 11 + 4, none⟩), .slice x.vw.M x.vw.row.length x.vw.cm]) 99 (by kernel_rfl) ?_
    refine S_take (i := 0) (v := .agg #[.bool x.vw.on, .pointer (some ⟨gS, (i + 1) * 11 + 4, none⟩), .slice x.vw.M x.vw.row.length x.vw.cm]) rfl rfl (by kernel_rfl) (by kernel_rfl) (by kernel_rfl) (fun _ _ _ h => h) (Or.inl ⟨by rfl, fun W' hw => by have k0 : W'.cell? ⟨w1.heap.size, 0, none⟩ = some (.bool x.vw.on) := hw.2.cell 0; have k1 : W'.cell? ⟨w1.heap.size, 1, none⟩ = some (.pointer (some ⟨gS, (i + 1) * 11 + 4, none⟩)) := hw.2.cell 1; have k2 : W'.cell? ⟨w1.heap.size, 2, none⟩ = some (.slice x.vw.M x.vw.row.length x.vw.cm) := hw.2.cell 2; go_simp⟩) hS ?_
    simp only [Act.put, List.getElem_toArray, List.getElem_cons_succ, List.getElem_cons_zero, List.setIfInBounds_toArray, List.set_cons_zero, List.set_cons_succ]
    refine S_take (i := 1) (v := .pointer (some ⟨g, 0, none⟩)) rfl rfl (by kernel_rfl) (by kernel_rfl) (by kernel_rfl) (fun _ _ _ h => h) (Or.inl ⟨by rfl, fun W' hw => by go_simp⟩) hS ?_
    simp only [Act.put, List.getElem_toArray, List.getElem_cons_succ, List.getElem_cons_zero, List.setIfInBounds_toArray, List.set_cons_zero, List.set_cons_succ]
    refine S_take (i := 2) (v := .pointer (some ⟨g, 0, none⟩)) rfl rfl (by kernel_rfl) (by kernel_rfl) (by kernel_rfl) (fun _ _ _ h => h) (Or.inl ⟨by rfl, fun W' hw => by go_simp⟩) hS ?_
    simp only [Act.put, List.getElem_toArray, List.getElem_cons_succ, List.getElem_cons_zero, List.setIfInBounds_toArray, List.set_cons_zero, List.set_cons_succ]
    refine S_take (i := 3) (v := .pointer (some ⟨g, 4, none⟩)) rfl rfl (by kernel_rfl) (by kernel_rfl) (by kernel_rfl) (fun _ _ _ h => h) (Or.inl ⟨by rfl, fun W' hw => by go_simp⟩) hS ?_
    simp only [Act.put, List.getElem_toArray, List.getElem_cons_succ, List.getElem_cons_zero, List.setIfInBounds_toArray, List.set_cons_zero, List.set_cons_succ]
    refine S_take (i := 4) (v := .slice (some ⟨gS, 0, none⟩) n c.cs') rfl rfl (by kernel_rfl) (by kernel_rfl) (by kernel_rfl) (fun _ _ _ h => h) (Or.inl ⟨by rfl, fun W' hw => by have k1 := hw.1; go_simp⟩) hS ?_
    simp only [Act.put, List.getElem_toArray, List.getElem_cons_succ, List.getElem_cons_zero, List.setIfInBounds_toArray, List.set_cons_zero, List.set_cons_succ]
    refine S_take (i := 5) (v := .int .i64 (i : Int)) rfl rfl (by kernel_rfl) (by kernel_rfl) (by kernel_rfl) (fun _ _ _ h => h) (Or.inl ⟨by rfl, fun W' hw => by go_simp⟩) hS ?_
    simp only [Act.put, List.getElem_toArray, List.getElem_cons_succ, List.getElem_cons_zero, List.setIfInBounds_toArray, List.set_cons_zero, List.set_cons_succ]
    refine S_take (i := 6) (v := .pointer (some ⟨gS, i * 11, none⟩)) rfl rfl (by kernel_rfl) (by kernel_rfl) (by kernel_rfl) (fun _ _ _ h => h) (Or.inl ⟨by rfl, fun W' hw => by go_simp⟩) hS ?_
    simp only [Act.put, List.getElem_toArray, List.getElem_cons_succ, List.getElem_cons_zero, List.setIfInBounds_toArray, List.set_cons_zero, List.set_cons_succ]
    refine L_one (j := 7) (by kernel_rfl) rfl (by rfl) ?_
    simp only [Act.put, List.getElem_toArray, List.getElem_cons_succ, List.getElem_cons_zero, List.setIfInBounds_toArray, List.set_cons_zero, List.set_cons_succ]
    refine wp_called (by go_simp) (HOS3.out _ hB) ?_
    rintro e W7 ⟨rfl, b⟩
    have hB : Below w4.heap.size w4 W7 := hB.trans (b.mono hB.size)
    clear b
    have hS : W7.cell? ⟨g, 4, none⟩ = some (.slice (some ⟨gS, 0, none⟩) n c.cs') ∧ Blk W7 w1.heap.size 163 #[.bool x.vw.on, .pointer (some ⟨gS, (i + 1) * 11 + 4, none⟩), .slice x.vw.M x.vw.row.length x.vw.cm] := ⟨by have k1 := HB3.out _ hB; exact k1.cell 4, HV3.out _ hB⟩
    refine ⟨_, rfl, hS, ?_⟩
    simp only [Act.put, List.getElem_toArray, List.getElem_cons_succ, List.getElem_cons_zero, List.setIfInBounds_toArray, List.set_cons_zero, List.set_cons_succ]
    refine L_one (j := 8) (by kernel_rfl) rfl (by rfl) ?_
    simp only [Act.put, List.getElem_toArray, List.getElem_cons_succ, List.getElem_cons_zero, List.setIfInBounds_toArray, List.set_cons_zero, List.set_cons_succ]
    have hW7 := HBW.out.trans (hB.mono HBW.out.size)
    refine wp_called (by go_simp) (HFL.out _ hW7) ?_
    rintro e W9 ⟨rfl, w8, o8, own8, hw9⟩
    have kv8 : Blk w8 w1.heap.size 163 #[.bool x.vw.on, .pointer (some ⟨gS, (i + 1) * 11 + 4, none⟩), .slice x.vw.M x.vw.row.length x.vw.cm] := hS.2.only o8 (fun h => by obtain ⟨cs, kb⟩ := ((HK.out.2.1.sn x (List.mem_of_getElem? HX.out)).vw.below hW7).ty h; exact kb.ne_ hS.2 (by decide) rfl)
    have n7 := HK.out.2.1.below hW7
    have k7 := HK.out.1.of (hW7.block _ HK.out.1.lt)
    have h78 := foll_snap (x.vw.good && s.vw.good) (Nat.le_trans HK.out.2.2.1 hW7.size) HK.out.2.2.2.1 k7 n7 HK.out.2.2.2.2.1 HK.out.2.2.2.2.2.1 HX.out (follM_len _ _) (follM_lt (HK.out.2.1.sn x (List.mem_of_getElem? HX.out)).vw.ok) o8 own8
    rw [← hw9] at h78
    have H78 := Lib.hid h78
    have HB7 : Hid (Below base W W9) := Lib.hid ((hW7.mono HK.out.2.2.1).trans h78.2.2)
    have hS9 : W9.cell? ⟨g, 4, none⟩ = some (.slice (some ⟨gS, 0, none⟩) n c.cs') ∧ Blk W9 w1.heap.size 163 #[.bool x.vw.on, .pointer (some ⟨gS, (i + 1) * 11 + 4, none⟩), .slice x.vw.M x.vw.row.length x.vw.cm] := ⟨by
      have k1 := h78.1
      unfold HA.cs at k1
      have k2 := k1.cell 4
      rw [k2]
      simp only [List.length_set, HK.out.2.2.2.2.2.1, ← HK.out.2.2.2.2.2.2.2.2.2]
      rfl, by
      rw [hw9]
      exact kv8.of (Below.heap_setCell w8 _ _ _ (by show w1.heap.size ≠ gS; have h1 := B1.out.2; have h2 := HK.out.1.lt; have h3 := HK.out.2.2.2.2.2.2.2.2.1; omega))⟩
    clear h78 hw9 own8 o8 n7 k7 hW7 hS hB kv8
    refine ⟨_, rfl, hS9, ?_⟩
    simp only [Act.put, List.getElem_toArray, List.getElem_cons_succ, List.getElem_cons_zero, List.setIfInBounds_toArray, List.set_cons_zero, List.set_cons_succ]
    refine L_done (by kernel_rfl) ?_
    refine NoPanic.normal ?_
    clear hS9
    obtain ⟨c1, hc1⟩ : ∃ c1 : HA, c1 = { c with sn := c.sn.set (i + 1) { x with vw := { x.vw with row := follM x.vw.row s.vw.row, good := x.vw.good && s.vw.good } } } := ⟨_, rfl⟩
    have HC1 : Hid (Blk W9 g 36 c1.cs ∧ c1.N W9 base [] ∧ c1.S = some ⟨gS, 0, none⟩ ∧ c1.sn.length = n ∧ c1.cs' = c.cs') := Lib.hid (by
      rw [hc1]
      exact ⟨H78.out.1, H78.out.2.1, HK.out.2.2.2.2.2.1, by simp [HK.out.2.2.2.2.2.2.2.2.2], rfl⟩)
    have HVV : Hid (({ c1 with sn := c1.sn.eraseIdx i } : HA).v = remV c.v i s.v) := Lib.hid (by
      have e : ({ c1 with sn := c1.sn.eraseIdx i } : HA).v = { c1.v with sn := c1.v.sn.eraseIdx i } := by unfold HA.v; simp only [map_erase]
      rw [e, hc1]
      have hv : c.v.sn[i + 1]? = some x.v := by show (c.sn.map SA.v)[i + 1]? = _; rw [List.getElem?_map, HX.out]; rfl
      rw [remV_mid hv]
      show ({ c.v with sn := ((c.sn.set (i + 1) _).map SA.v).eraseIdx i } : HdV) = _; rw [List.map_set]; rfl)
    clear hc1 H78
    have K9 : Blk W9 g 36 #[.int .i64 c1.id, .int .i64 c1.vw.size, .int .i64 c1.obj, .int .i64 c1.seq, .slice (some ⟨gS, 0, none⟩) n c.cs', .bool c1.vw.on, .bool c1.vw.good, .slice c1.vw.M c1.vw.row.length c1.vw.cm, .string (strOf c1.vw.par), .int .i64 c1.vw.ps, .int .i64 c1.vw.ov, .int .i64 c1.ow, .int .i64 c1.it, .int .i64 c1.tg] := by
      have := HC1.out.1
      unfold HA.cs at this
      rw [HC1.out.2.2.1, HC1.out.2.2.2.1, HC1.out.2.2.2.2] at this
      exact this
    have q9 : W9.cell? ⟨g, 4, none⟩ = some (.slice (some ⟨gS, 0, none⟩) n c.cs') := K9.cell 4
    have HD : Hid (Calls Try.prog 160 #[.slice (some ⟨gS, 0, none⟩) n c.cs', .int .i64 (i : Int), .int .i64 ((i + 1 : Nat) : Int)] W9 (DelSTo W9 base gS n c.cs' c1.sn i)) := Lib.hid (by
      have ho := HC1.out.2.1.own
      rw [HC1.out.2.2.1, HC1.out.2.2.2.1, HC1.out.2.2.2.2] at ho
      exact delsn_any W9 base gS n c.cs' i c1.sn ho HC1.out.2.2.2.1 hin hc9)
    have HK9 := Lib.hid K9
    clear K9
    go_wp2_with fail
    refine HD.out.mono ?_
    rintro e w10 ⟨rfl, own10, o10⟩
    obtain ⟨csS, kS⟩ := own_ty HC1.out.2.1.own (k := gS) (by rw [HC1.out.2.2.1]; simp [rowOf, Value.ownBlock])
    have K10 := HK9.out.only o10 (by intro h; simp at h; subst h; exact HK9.out.ne_ kS (by decide) rfl)
    have HO := Lib.hid (And.intro own10 o10)
    clear own10 o10 kS q9
    go_wp2_with (have _h := K10; refine wpList_setq rfl 32 (.tmp 42) (.tmp 40) rfl g 4 36 _ (.slice (some ⟨gS, 0, none⟩) (n - 1) c.cs') rfl rfl K10 (by simp) (by kernel_rfl) rfl ?_; clear _h K10; intro w11 K11 o11 s11)
    refine bodyPost_end (results_none rfl _ _ _) rfl ?_
    have h11 := del_snap (w2 := w11) (i := i) (W := W9) (w1 := w10) (c := c1) (Nat.le_trans HK.out.2.2.1 HB7.out.size) HK.out.2.2.2.1 HC1.out.1 HC1.out.2.1 HC1.out.2.2.1 (by rw [HC1.out.2.2.2.1]; exact hin) (by rw [HC1.out.2.2.2.1, HC1.out.2.2.2.2]; exact HO.out.1) HO.out.2 (by rw [HC1.out.2.2.2.1, HC1.out.2.2.2.2]; exact K11) o11
    exact ⟨rfl, HB7.out.trans h11.2.2, _, h11.1, h11.2.1, HVV.out⟩
  · have d1 : decide (((i + 1 : Nat) : Int) < (n : Int)) = false := decide_eq_false (by omega)
    have HX : Hid (c.sn[i + 1]? = none) := Lib.hid (List.getElem?_eq_none (by have := HK.out.2.2.2.2.2.2.2.2.2; omega))
    go_enter Try.func130, Try.ntmps130
    go_wp2_with fail
    refine (HOH.out W (Below.refl _ _)).mono ?_
    rintro e w1 ⟨rfl, b1⟩
    obtain ⟨gv, hgv⟩ : ∃ gv, gv = w1.heap.size := ⟨_, rfl⟩
    have K1 : Blk (w1.alloc (.cells #[.bool false, .pointer none, .slice none 0 0] 163)) w1.heap.size 163 #[.bool false, .pointer none, .slice none 0 0] := Blk.new _ _ _
    have B1 : Hid (Below W.heap.size W (w1.alloc (.cells #[.bool false, .pointer none, .slice none 0 0] 163)) ∧ W.heap.size ≤ gv) := Lib.hid ⟨b1.alloc b1.size _, by rw [hgv]; exact b1.size⟩
    clear b1
    go_wp2_with (have _h := K1; refine wpList_storeq rfl 163 (.tmp 4) (.tmp 6) rfl w1.heap.size _ [.bool c.vw.on, .pointer (some ⟨g, 6, none⟩), .slice c.vw.M c.vw.row.length c.vw.cm] rfl rfl K1 (by simp) (by kernel_rfl) (by intro u hu; simp at hu; rcases hu with h | h | h <;> subst h <;> rfl) ?_; clear _h K1; intro w2 K2 o2 s2; have HB2 : Hid (Below W.heap.size W w2) := Lib.hid (B1.out.1.trans (o2.below (fun q hq => by simp at hq; have := B1.out.2; omega) B1.out.1.size)); have q4 : w2.cell? ⟨g, 4, none⟩ = some (.slice (some ⟨gS, 0, none⟩) n c.cs') := (HBX.out w2 HB2.out).cell 4)
    have HFL : Hid (∀ W', Below W.heap.size W W' → Calls Try.prog 159 #[.agg #[.bool c.vw.on, .pointer (some ⟨g, 6, none⟩), .slice c.vw.M c.vw.row.length c.vw.cm], .agg #[.bool s.vw.on, .pointer (some ⟨gS, i * 11 + 4, none⟩), .slice s.vw.M s.vw.row.length s.vw.cm]] W' (FollTo W' base g 6 c.vw.M c.vw.row.length c.vw.cm c.vw.row s.vw.row (c.vw.good && s.vw.good))) := Lib.hid fun W' hW' => by
      have hvN := HK.out.2.1.vw.below hW'
      have hsm := List.mem_of_getElem? HK.out.2.2.2.2.2.2.1
      have hsN := (HK.out.2.1.sn s hsm).below hW'
      have hty : ∀ {q : Nat} {t : TypeId} {cs : Array Value}, Blk W' q t cs → t ≠ 5 → q ∉ rowOf (.slice c.vw.M 0 0) := fun kq hne h => by obtain ⟨cs, kb⟩ := hvN.ty h; exact kb.ne_ kq (Ne.symm hne) rfl
      have kg := HK.out.1.of (hW'.block _ HK.out.1.lt)
      obtain ⟨csS, kS⟩ := own_ty (HK.out.2.1.below hW').own (k := gS) (by rw [HK.out.2.2.2.2.2.1]; simp [rowOf, Value.ownBlock])
      exact follow_any W' base g 6 gS (i * 11 + 4) c.vw.row.length c.vw.cm s.vw.row.length s.vw.cm c.vw.M s.vw.M c.vw.on s.vw.on c.vw.good s.vw.good c.vw.row s.vw.row HK.out.2.2.2.2.2.2.2.1.1 (HK.out.2.2.2.2.2.2.2.1.2 s hsm) rfl rfl hvN.own hsN.vw.own hvN.ok hsN.vw.ok (fun q hq => HK.out.2.2.2.2.1.far hsm hq) kg.lt kS.lt (hty kg (by decide)) (hty kS (by decide)) (by have k1 := HBX.out W' hW'; exact k1.cell 6) (HCL.out W' hW' i s HK.out.2.2.2.2.2.2.1).1 (by have k1 := HBX.out W' hW'; exact k1.there (by simp)) (Nat.le_trans HK.out.2.2.1 hW'.size)
    have HBW : Hid (Below W.heap.size W w2) := Lib.hid HB2.out
    have HB3 : Hid (∀ W', Below w2.heap.size w2 W' → Blk W' g 36 #[.int .i64 c.id, .int .i64 c.vw.size, .int .i64 c.obj, .int .i64 c.seq, .slice (some ⟨gS, 0, none⟩) n c.cs', .bool c.vw.on, .bool c.vw.good, .slice c.vw.M c.vw.row.length c.vw.cm, .string (strOf c.vw.par), .int .i64 c.vw.ps, .int .i64 c.vw.ov, .int .i64 c.ow, .int .i64 c.it, .int .i64 c.tg]) := Lib.hid fun W' hW' => HBX.out W' (HBW.out.trans (hW'.mono HBW.out.size))
    have HV3 : Hid (∀ W', Below w2.heap.size w2 W' → Blk W' w1.heap.size 163 #[.bool c.vw.on, .pointer (some ⟨g, 6, none⟩), .slice c.vw.M c.vw.row.length c.vw.cm]) := Lib.hid fun W' hW' => K2.of (hW'.block _ K2.lt)
    have HOS3 : Hid (∀ W', Below w2.heap.size w2 W' → Calls Try.prog 134 #[.pointer (some ⟨gS, i * 11, none⟩)] W' fun e w' => e = .returned (.agg #[.bool s.vw.on, .pointer (some ⟨gS, i * 11 + 4, none⟩), .slice s.vw.M s.vw.row.length s.vw.cm]) ∧ Below W'.heap.size W' w') := Lib.hid fun W' hW' => HOS.out W' (HBW.out.trans (hW'.mono HBW.out.size)) i s HK.out.2.2.2.2.2.2.1
    clear K2 o2 s2 q4
    go_upto_region 3 with (fail)
    have hB : Below w2.heap.size w2 w2.drew := (Below.refl _ w2).drew
    have hS : w2.drew.cell? ⟨g, 4, none⟩ = some (.slice (some ⟨gS, 0, none⟩) n c.cs') ∧ Blk w2.drew w1.heap.size 163 #[.bool c.vw.on, .pointer (some ⟨g, 6, none⟩), .slice c.vw.M c.vw.row.length c.vw.cm] := ⟨by have k1 := HB3.out _ hB; exact k1.cell 4, HV3.out _ hB⟩
    refine any_beginL (fun W' => W'.cell? ⟨g, 4, none⟩ = some (.slice (some ⟨gS, 0, none⟩) n c.cs') ∧ Blk W' w1.heap.size 163 #[.bool c.vw.on, .pointer (some ⟨g, 6, none⟩), .slice c.vw.M c.vw.row.length c.vw.cm]) 99 (by kernel_rfl) ?_
    refine S_take (i := 0) (v := .agg #[.bool c.vw.on, .pointer (some ⟨g, 6, none⟩), .slice c.vw.M c.vw.row.length c.vw.cm]) rfl rfl (by kernel_rfl) (by kernel_rfl) (by kernel_rfl) (fun _ _ _ h => h) (Or.inl ⟨by rfl, fun W' hw => by have k0 : W'.cell? ⟨w1.heap.size, 0, none⟩ = some (.bool c.vw.on) := hw.2.cell 0; have k1 : W'.cell? ⟨w1.heap.size, 1, none⟩ = some (.pointer (some ⟨g, 6, none⟩)) := hw.2.cell 1; have k2 : W'.cell? ⟨w1.heap.size, 2, none⟩ = some (.slice c.vw.M c.vw.row.length c.vw.cm) := hw.2.cell 2; go_simp⟩) hS ?_
    simp only [Act.put, List.getElem_toArray, List.getElem_cons_succ, List.getElem_cons_zero, List.setIfInBounds_toArray, List.set_cons_zero, List.set_cons_succ]
    refine S_take (i := 1) (v := .pointer (some ⟨g, 0, none⟩)) rfl rfl (by kernel_rfl) (by kernel_rfl) (by kernel_rfl) (fun _ _ _ h => h) (Or.inl ⟨by rfl, fun W' hw => by go_simp⟩) hS ?_
    simp only [Act.put, List.getElem_toArray, List.getElem_cons_succ, List.getElem_cons_zero, List.setIfInBounds_toArray, List.set_cons_zero, List.set_cons_succ]
    refine S_take (i := 2) (v := .pointer (some ⟨g, 0, none⟩)) rfl rfl (by kernel_rfl) (by kernel_rfl) (by kernel_rfl) (fun _ _ _ h => h) (Or.inl ⟨by rfl, fun W' hw => by go_simp⟩) hS ?_
    simp only [Act.put, List.getElem_toArray, List.getElem_cons_succ, List.getElem_cons_zero, List.setIfInBounds_toArray, List.set_cons_zero, List.set_cons_succ]
    refine S_take (i := 3) (v := .pointer (some ⟨g, 4, none⟩)) rfl rfl (by kernel_rfl) (by kernel_rfl) (by kernel_rfl) (fun _ _ _ h => h) (Or.inl ⟨by rfl, fun W' hw => by go_simp⟩) hS ?_
    simp only [Act.put, List.getElem_toArray, List.getElem_cons_succ, List.getElem_cons_zero, List.setIfInBounds_toArray, List.set_cons_zero, List.set_cons_succ]
    refine S_take (i := 4) (v := .slice (some ⟨gS, 0, none⟩) n c.cs') rfl rfl (by kernel_rfl) (by kernel_rfl) (by kernel_rfl) (fun _ _ _ h => h) (Or.inl ⟨by rfl, fun W' hw => by have k1 := hw.1; go_simp⟩) hS ?_
    simp only [Act.put, List.getElem_toArray, List.getElem_cons_succ, List.getElem_cons_zero, List.setIfInBounds_toArray, List.set_cons_zero, List.set_cons_succ]
    refine S_take (i := 5) (v := .int .i64 (i : Int)) rfl rfl (by kernel_rfl) (by kernel_rfl) (by kernel_rfl) (fun _ _ _ h => h) (Or.inl ⟨by rfl, fun W' hw => by go_simp⟩) hS ?_
    simp only [Act.put, List.getElem_toArray, List.getElem_cons_succ, List.getElem_cons_zero, List.setIfInBounds_toArray, List.set_cons_zero, List.set_cons_succ]
    refine S_take (i := 6) (v := .pointer (some ⟨gS, i * 11, none⟩)) rfl rfl (by kernel_rfl) (by kernel_rfl) (by kernel_rfl) (fun _ _ _ h => h) (Or.inl ⟨by rfl, fun W' hw => by go_simp⟩) hS ?_
    simp only [Act.put, List.getElem_toArray, List.getElem_cons_succ, List.getElem_cons_zero, List.setIfInBounds_toArray, List.set_cons_zero, List.set_cons_succ]
    refine L_one (j := 7) (by kernel_rfl) rfl (by rfl) ?_
    simp only [Act.put, List.getElem_toArray, List.getElem_cons_succ, List.getElem_cons_zero, List.setIfInBounds_toArray, List.set_cons_zero, List.set_cons_succ]
    refine wp_called (by go_simp) (HOS3.out _ hB) ?_
    rintro e W7 ⟨rfl, b⟩
    have hB : Below w2.heap.size w2 W7 := hB.trans (b.mono hB.size)
    clear b
    have hS : W7.cell? ⟨g, 4, none⟩ = some (.slice (some ⟨gS, 0, none⟩) n c.cs') ∧ Blk W7 w1.heap.size 163 #[.bool c.vw.on, .pointer (some ⟨g, 6, none⟩), .slice c.vw.M c.vw.row.length c.vw.cm] := ⟨by have k1 := HB3.out _ hB; exact k1.cell 4, HV3.out _ hB⟩
    refine ⟨_, rfl, hS, ?_⟩
    simp only [Act.put, List.getElem_toArray, List.getElem_cons_succ, List.getElem_cons_zero, List.setIfInBounds_toArray, List.set_cons_zero, List.set_cons_succ]
    refine L_one (j := 8) (by kernel_rfl) rfl (by rfl) ?_
    simp only [Act.put, List.getElem_toArray, List.getElem_cons_succ, List.getElem_cons_zero, List.setIfInBounds_toArray, List.set_cons_zero, List.set_cons_succ]
    have hW7 := HBW.out.trans (hB.mono HBW.out.size)
    refine wp_called (by go_simp) (HFL.out _ hW7) ?_
    rintro e W9 ⟨rfl, w8, o8, own8, hw9⟩
    have kv8 : Blk w8 w1.heap.size 163 #[.bool c.vw.on, .pointer (some ⟨g, 6, none⟩), .slice c.vw.M c.vw.row.length c.vw.cm] := hS.2.only o8 (fun h => by obtain ⟨cs, kb⟩ := (HK.out.2.1.vw.below hW7).ty h; exact kb.ne_ hS.2 (by decide) rfl)
    have n7 := HK.out.2.1.below hW7
    have k7 := HK.out.1.of (hW7.block _ HK.out.1.lt)
    have h78 := foll_head (c.vw.good && s.vw.good) (Nat.le_trans HK.out.2.2.1 hW7.size) HK.out.2.2.2.1 k7 n7 HK.out.2.2.2.2.1 (follM_len _ _) (follM_lt HK.out.2.1.vw.ok) o8 own8
    rw [← hw9] at h78
    have H78 := Lib.hid h78
    have HB7 : Hid (Below base W W9) := Lib.hid ((hW7.mono HK.out.2.2.1).trans h78.2.2)
    have hS9 : W9.cell? ⟨g, 4, none⟩ = some (.slice (some ⟨gS, 0, none⟩) n c.cs') ∧ Blk W9 w1.heap.size 163 #[.bool c.vw.on, .pointer (some ⟨g, 6, none⟩), .slice c.vw.M c.vw.row.length c.vw.cm] := ⟨by
      have k1 := h78.1
      unfold HA.cs at k1
      have k2 := k1.cell 4
      rw [k2]
      simp only [HK.out.2.2.2.2.2.1, ← HK.out.2.2.2.2.2.2.2.2.2]
      rfl, by
      rw [hw9]
      exact kv8.of (Below.heap_setCell w8 _ _ _ (by show w1.heap.size ≠ g; have h1 := B1.out.2; have h2 := HK.out.1.lt; have h3 := HK.out.2.2.2.2.2.2.2.2.1; omega))⟩
    clear h78 hw9 own8 o8 n7 k7 hW7 hS hB kv8
    refine ⟨_, rfl, hS9, ?_⟩
    simp only [Act.put, List.getElem_toArray, List.getElem_cons_succ, List.getElem_cons_zero, List.setIfInBounds_toArray, List.set_cons_zero, List.set_cons_succ]
    refine L_done (by kernel_rfl) ?_
    refine NoPanic.normal ?_
    clear hS9
    obtain ⟨c1, hc1⟩ : ∃ c1 : HA, c1 = { c with vw := { c.vw with row := follM c.vw.row s.vw.row, good := c.vw.good && s.vw.good } } := ⟨_, rfl⟩
    have HC1 : Hid (Blk W9 g 36 c1.cs ∧ c1.N W9 base [] ∧ c1.S = some ⟨gS, 0, none⟩ ∧ c1.sn.length = n ∧ c1.cs' = c.cs') := Lib.hid (by
      rw [hc1]
      exact ⟨H78.out.1, H78.out.2.1, HK.out.2.2.2.2.2.1, by exact HK.out.2.2.2.2.2.2.2.2.2.symm, rfl⟩)
    have HVV : Hid (({ c1 with sn := c1.sn.eraseIdx i } : HA).v = remV c.v i s.v) := Lib.hid (by
      have e : ({ c1 with sn := c1.sn.eraseIdx i } : HA).v = { c1.v with sn := c1.v.sn.eraseIdx i } := by unfold HA.v; simp only [map_erase]
      rw [e, hc1]
      have hv : c.v.sn[i + 1]? = none := by show (c.sn.map SA.v)[i + 1]? = _; rw [List.getElem?_map, HX.out]; rfl
      rw [remV_last hv]
      rfl)
    clear hc1 H78
    have K9 : Blk W9 g 36 #[.int .i64 c1.id, .int .i64 c1.vw.size, .int .i64 c1.obj, .int .i64 c1.seq, .slice (some ⟨gS, 0, none⟩) n c.cs', .bool c1.vw.on, .bool c1.vw.good, .slice c1.vw.M c1.vw.row.length c1.vw.cm, .string (strOf c1.vw.par), .int .i64 c1.vw.ps, .int .i64 c1.vw.ov, .int .i64 c1.ow, .int .i64 c1.it, .int .i64 c1.tg] := by
      have := HC1.out.1
      unfold HA.cs at this
      rw [HC1.out.2.2.1, HC1.out.2.2.2.1, HC1.out.2.2.2.2] at this
      exact this
    have q9 : W9.cell? ⟨g, 4, none⟩ = some (.slice (some ⟨gS, 0, none⟩) n c.cs') := K9.cell 4
    have HD : Hid (Calls Try.prog 160 #[.slice (some ⟨gS, 0, none⟩) n c.cs', .int .i64 (i : Int), .int .i64 ((i + 1 : Nat) : Int)] W9 (DelSTo W9 base gS n c.cs' c1.sn i)) := Lib.hid (by
      have ho := HC1.out.2.1.own
      rw [HC1.out.2.2.1, HC1.out.2.2.2.1, HC1.out.2.2.2.2] at ho
      exact delsn_any W9 base gS n c.cs' i c1.sn ho HC1.out.2.2.2.1 hin hc9)
    have HK9 := Lib.hid K9
    clear K9
    go_wp2_with fail
    refine HD.out.mono ?_
    rintro e w10 ⟨rfl, own10, o10⟩
    obtain ⟨csS, kS⟩ := own_ty HC1.out.2.1.own (k := gS) (by rw [HC1.out.2.2.1]; simp [rowOf, Value.ownBlock])
    have K10 := HK9.out.only o10 (by intro h; simp at h; subst h; exact HK9.out.ne_ kS (by decide) rfl)
    have HO := Lib.hid (And.intro own10 o10)
    clear own10 o10 kS q9
    go_wp2_with (have _h := K10; refine wpList_setq rfl 32 (.tmp 42) (.tmp 40) rfl g 4 36 _ (.slice (some ⟨gS, 0, none⟩) (n - 1) c.cs') rfl rfl K10 (by simp) (by kernel_rfl) rfl ?_; clear _h K10; intro w11 K11 o11 s11)
    refine bodyPost_end (results_none rfl _ _ _) rfl ?_
    have h11 := del_snap (w2 := w11) (i := i) (W := W9) (w1 := w10) (c := c1) (Nat.le_trans HK.out.2.2.1 HB7.out.size) HK.out.2.2.2.1 HC1.out.1 HC1.out.2.1 HC1.out.2.2.1 (by rw [HC1.out.2.2.2.1]; exact hin) (by rw [HC1.out.2.2.2.1, HC1.out.2.2.2.2]; exact HO.out.1) HO.out.2 (by rw [HC1.out.2.2.2.1, HC1.out.2.2.2.2]; exact K11) o11
    exact ⟨rfl, HB7.out.trans h11.2.2, _, h11.1, h11.2.1, HVV.out⟩
end Go.Proofs.Ytiimanoloedbeaa

/-
  A snapshot is brought back to a copy of a head (bringBack). Conditions: the copy is the call's own, its rows lie in blocks of their own.
-/
namespace Go.Proofs.Ytiimanoloedbeaa
open Go.RowKit Go.BigFrame
set_option linter.unusedSimpArgs false
set_option linter.unusedVariables false
set_option maxRecDepth 100000
/-- the first k marks as they may have changed -/
def bakK (m : List Nat) (k : Nat) : List Nat := (List.range m.length).map fun i => if i < k then bak1 (mk m i) else mk m i
theorem bakK_len (m : List Nat) (k : Nat) : (bakK m k).length = m.length := by simp [bakK]
theorem bakK_at (m : List Nat) (k : Nat) {i : Nat} (h : i < m.length) : (bakK m k)[i]? = some (if i < k then bak1 (mk m i) else mk m i) := by
  simp [bakK, h]
theorem bakK_zero (m : List Nat) : bakK m 0 = m := by
  apply List.ext_getElem?
  intro i
  by_cases h : i < m.length
  · rw [bakK_at m 0 h, if_neg (by omega), List.getElem?_eq_getElem h]
    congr 1
    exact mk_at (List.getElem?_eq_getElem h)
  · rw [List.getElem?_eq_none (by rw [bakK_len]; omega), List.getElem?_eq_none (by omega)]
theorem bakK_step (m : List Nat) {k : Nat} (h : k < m.length) : bakK m (k + 1) = (bakK m k).set k (bak1 (mk m k)) := by
  apply List.ext_getElem?
  intro i
  by_cases hi : i < m.length
  · rw [bakK_at m (k + 1) hi]
    by_cases hk : i = k
    · subst hk
      rw [List.getElem?_set_self (by rw [bakK_len]; omega), if_pos (by omega)]
    · rw [List.getElem?_set_ne (Ne.symm hk), bakK_at m k hi]
      by_cases h2 : i < k
      · rw [if_pos h2, if_pos (by omega)]
      · rw [if_neg h2, if_neg (by omega)]
  · rw [List.getElem?_eq_none (by rw [bakK_len]; omega), List.getElem?_eq_none (by rw [List.length_set, bakK_len]; omega)]
theorem bakK_all (m : List Nat) : bakK m m.length = m.map bak1 := by
  apply List.ext_getElem?
  intro i
  by_cases hi : i < m.length
  · rw [bakK_at m _ hi, if_pos hi, List.getElem?_map, List.getElem?_eq_getElem hi, mk_at (List.getElem?_eq_getElem hi)]
    rfl
  · rw [List.getElem?_eq_none (by rw [bakK_len]; omega), List.getElem?_eq_none (by rw [List.length_map]; omega)]
theorem bak1_lt {a : Nat} (h : a < 256) : bak1 a < 256 := by unfold bak1; split <;> omega
/-- behind new marks of the head's own row, which no snapshot's is -/
theorem row_head {W w1 : World} {base g : Nat} {c : HA} {row : List Nat} (hb : base ≤ W.heap.size) (k : Blk W g 36 c.cs) (hN : c.N W base []) (hfar : ∀ x ∈ c.sn, ∀ q ∈ rowOf (.slice x.vw.M 0 0), q ∉ rowOf (.slice c.vw.M 0 0)) (hl : row.length = c.vw.row.length) (hlt : ∀ x ∈ row, x < 256) (o : Only (rowOf (.slice c.vw.M 0 0)) W w1) (ho : Own w1 base (.slice c.vw.M c.vw.row.length c.vw.cm) c.vw.row.length row) :
    Blk w1 g 36 ({ c with vw := { c.vw with row := row } } : HA).cs ∧ ({ c with vw := { c.vw with row := row } } : HA).N w1 base [] ∧ Below base W w1 := by
  have hty : ∀ {q : Nat} {t : TypeId} {cs : Array Value}, Blk W q t cs → t ≠ 5 → q ∉ rowOf (.slice c.vw.M 0 0) := fun kq hne h => by obtain ⟨cs, kb⟩ := hN.vw.ty h; exact kb.ne_ kq (Ne.symm hne) rfl
  have k1 := k.only o (hty k (by decide))
  refine ⟨?_, ?_, o.below (fun q hq => row_over hN.vw.own q (row_any hq)) hb⟩
  · unfold HA.cs at k1 ⊢
    simp only [hl]
    exact k1
  · refine ⟨⟨?_, fun _ _ h => (by cases h), hlt, hN.vw.par, hN.vw.size, hN.vw.ps, hN.vw.ov, hN.vw.pl⟩, fun x hx => (hN.sn x hx).of (fun q hq => o.block q ((hN.sn x hx).vw.under hq) (hfar x hx q hq)) (fun q hq => ?_), row_of hN.own fun q hq => ?_, hN.id, hN.obj, hN.seq, hN.ow, hN.it, hN.tg⟩
    · show Own w1 base (.slice c.vw.M row.length c.vw.cm) row.length row
      rw [hl]; exact ho
    · obtain ⟨cs, kb⟩ := (hN.sn x hx).ty hq
      exact o.block q kb.lt (hty kb (by decide))
    · obtain ⟨cs, kb⟩ := own_ty hN.own hq
      exact o.block q kb.lt (hty kb (by decide))
theorem wp_set3 {P : Program} {o : Oper} {a : Act} {w : World} {K : Act → World → Prop} {Q : Exit → Act → World → Prop} (ty : TypeId) (x y : Operand) (ho : o.op = .store ty x y)
    (g i : Nat) (t : TypeId) (cs : Array Value) (u v z : Value) (hx : a.eval x = .pointer (some ⟨g, i, none⟩)) (hy : a.eval y = .agg #[u, v, z]) (hB : Blk w g t cs) (hs : i + 2 < cs.size) (hi : (P.info? ty).map (·.size) = some 3) (h1 : u.oneCell' = true) (h2 : v.oneCell' = true) (h3 : z.oneCell' = true)
    (h : ∀ w', Blk w' g t (((cs.setIfInBounds i u).setIfInBounds (i + 1) v).setIfInBounds (i + 2) z) → Only [g] w w' → w'.heap.size = w.heap.size → K (a.put o.dst undef) w') : o.wp P a w K Q := by
  refine wp_store_mid ty x y ho g i #[u, v, z] hx hy (hB.there (by simp; omega)) (by simpa using hi) (all_oneCell_toArray (cs := [u, v, z]) (by intro q hq; simp at hq; rcases hq with rfl | rfl | rfl <;> assumption)) (h _ ?_ ((Only.refl _ _).grown (by simpa using (setCells_grown g [u, v, z] i w).1) (fun k e => .inl (by injection e with e; simp [e]))) (by simpa using (setCells_grown g [u, v, z] i w).2))
  have := ((hB.set_ i u).set_ (i + 1) v).set_ (i + 2) z
  simpa [World.setCells] using this
/-- what bringing back comes to -/
def BringTo (W : World) (base g : Nat) (c : HA) (s : SA) (e : Ending) (w' : World) : Prop :=
  e = .returned (.tuple #[]) ∧ Below base W w' ∧ ∃ c' : HA, Blk w' g 36 c'.cs ∧ c'.N w' base [] ∧ c'.v = bringV c.v s.v
/-- the state ahead of the k-th mark -/
structure Bak (w5 : World) (base : Nat) (M : Option Addr) (n cm : Nat) (row : List Nat) (k : Nat) (wr : World) : Prop where
  o : Only (rowOf (.slice M 0 0)) w5 wr
  own : Own wr base (.slice M n cm) n (bakK row k)
set_option maxHeartbeats 32000000 in
theorem bring_any (W : World) (base g : Nat) (c : HA) (s : SA) (hb : base ≤ W.heap.size) (hg : base ≤ g) (k : Blk W g 36 c.cs) (hN : c.N W base []) (hdj : c.Dj) (hsN : s.N W base []) (hsz : 0 ≤ s.vw.size ∧ s.vw.size ≤ 4096) (ho : isObjB c.obj = true) (hoff : c.vw.on = false → c.vw.row = []) :
    Calls Try.prog 129 #[.pointer (some ⟨g, 0, none⟩), .agg s.cells.toArray] W (BringTo W base g c s) := by
  obtain ⟨W1, hW1⟩ : ∃ W', W' = W.alloc (.cells #[.int .i64 s.num, .int .i64 s.vw.size, .string (strOf s.name), .bool s.vw.on, .bool s.vw.good, .bool s.prot, .slice s.vw.M s.vw.row.length s.vw.cm, .string (strOf s.vw.par), .int .i64 s.vw.ps, .int .i64 s.vw.ov, .slice s.C s.ch.length s.cc] 66) := ⟨_, rfl⟩
  have hb1 : Below W.heap.size W W1 := by rw [hW1]; exact below_alloc W _
  have hz1 : W1.heap.size = W.heap.size + 1 := by rw [hW1]; simp
  have kx : Blk W1 W.heap.size 66 #[.int .i64 s.num, .int .i64 s.vw.size, .string (strOf s.name), .bool s.vw.on, .bool s.vw.good, .bool s.prot, .slice s.vw.M s.vw.row.length s.vw.cm, .string (strOf s.vw.par), .int .i64 s.vw.ps, .int .i64 s.vw.ov, .slice s.C s.ch.length s.cc] := by rw [hW1]; exact Blk.new W _ _
  have HK := Lib.hid (And.intro k (And.intro hN (And.intro hb (And.intro hg (And.intro hdj hsN)))))
  have HS := Lib.hid (And.intro hsz (And.intro ho hoff))
  have H1 := Lib.hid (And.intro hb1 (And.intro hz1 kx))
  have kg1 : Blk W1 g 36 #[.int .i64 c.id, .int .i64 c.vw.size, .int .i64 c.obj, .int .i64 c.seq, .slice c.S c.sn.length c.cs', .bool c.vw.on, .bool c.vw.good, .slice c.vw.M c.vw.row.length c.vw.cm, .string (strOf c.vw.par), .int .i64 c.vw.ps, .int .i64 c.vw.ov, .int .i64 c.ow, .int .i64 c.it, .int .i64 c.tg] := by
    have k1 : Blk W g 36 #[.int .i64 c.id, .int .i64 c.vw.size, .int .i64 c.obj, .int .i64 c.seq, .slice c.S c.sn.length c.cs', .bool c.vw.on, .bool c.vw.good, .slice c.vw.M c.vw.row.length c.vw.cm, .string (strOf c.vw.par), .int .i64 c.vw.ps, .int .i64 c.vw.ov, .int .i64 c.ow, .int .i64 c.it, .int .i64 c.tg] := k
    exact k1.of (hb1.block _ k.lt)
  have HG1 := Lib.hid kg1
  have HW1 := Lib.hid hW1
  have HNE : Hid (g ≠ W.heap.size ∧ g < W.heap.size) := Lib.hid ⟨by have := k.lt; omega, k.lt⟩
  clear hb1 hz1 kx k hN hb hg hdj hsN hsz ho hoff hW1 kg1
  show Calls Try.prog 129 #[.pointer (some ⟨g, 0, none⟩), .agg #[.int .i64 s.num, .int .i64 s.vw.size, .string (strOf s.name), .bool s.vw.on, .bool s.vw.good, .bool s.prot, .slice s.vw.M s.vw.row.length s.vw.cm, .string (strOf s.vw.par), .int .i64 s.vw.ps, .int .i64 s.vw.ov, .slice s.C s.ch.length s.cc]] W (BringTo W base g c s)
  go_enter Try.func129, Try.ntmps129
  go_upto_region 1 with (fail)
  rw [← HW1.out]
  clear HW1
  have hS : Blk W1.drew W.heap.size 66 #[.int .i64 s.num, .int .i64 s.vw.size, .string (strOf s.name), .bool s.vw.on, .bool s.vw.good, .bool s.prot, .slice s.vw.M s.vw.row.length s.vw.cm, .string (strOf s.vw.par), .int .i64 s.vw.ps, .int .i64 s.vw.ov, .slice s.C s.ch.length s.cc] := H1.out.2.2
  have KP : Blk W1.drew g 36 #[.int .i64 c.id, .int .i64 c.vw.size, .int .i64 c.obj, .int .i64 c.seq, .slice c.S c.sn.length c.cs', .bool c.vw.on, .bool c.vw.good, .slice c.vw.M c.vw.row.length c.vw.cm, .string (strOf c.vw.par), .int .i64 c.vw.ps, .int .i64 c.vw.ov, .int .i64 c.ow, .int .i64 c.it, .int .i64 c.tg] := HG1.out
  refine any_beginL (fun W' => Blk W' W.heap.size 66 #[.int .i64 s.num, .int .i64 s.vw.size, .string (strOf s.name), .bool s.vw.on, .bool s.vw.good, .bool s.prot, .slice s.vw.M s.vw.row.length s.vw.cm, .string (strOf s.vw.par), .int .i64 s.vw.ps, .int .i64 s.vw.ov, .slice s.C s.ch.length s.cc]) 99 (by kernel_rfl) ?_
  refine S_take (i := 0) (v := .pointer (some ⟨g, 0, none⟩)) rfl rfl (by kernel_rfl) (by kernel_rfl) (by kernel_rfl) (fun _ _ _ h => h) (Or.inl ⟨by rfl, fun W' hw => by go_simp⟩) hS ?_
  simp only [Act.put, List.getElem_toArray, List.getElem_cons_succ, List.getElem_cons_zero, List.setIfInBounds_toArray, List.set_cons_zero, List.set_cons_succ]
  refine S_take (i := 1) (v := .pointer (some ⟨g, 0, none⟩)) rfl rfl (by kernel_rfl) (by kernel_rfl) (by kernel_rfl) (fun _ _ _ h => h) (Or.inl ⟨by rfl, fun W' hw => by go_simp⟩) hS ?_
  simp only [Act.put, List.getElem_toArray, List.getElem_cons_succ, List.getElem_cons_zero, List.setIfInBounds_toArray, List.set_cons_zero, List.set_cons_succ]
  refine S_take (i := 2) (v := .pointer (some ⟨W.heap.size, 1, none⟩)) rfl rfl (by kernel_rfl) (by kernel_rfl) (by kernel_rfl) (fun _ _ _ h => h) (Or.inl ⟨by rfl, fun W' hw => by go_simp⟩) hS ?_
  simp only [Act.put, List.getElem_toArray, List.getElem_cons_succ, List.getElem_cons_zero, List.setIfInBounds_toArray, List.set_cons_zero, List.set_cons_succ]
  refine S_take (i := 3) (v := .int .i64 s.vw.size) rfl rfl (by kernel_rfl) (by kernel_rfl) (by kernel_rfl) (fun _ _ _ h => h) (Or.inl ⟨by rfl, fun W' hw => by have k1 : W'.cell? ⟨W.heap.size, 1, none⟩ = some (.int .i64 s.vw.size) := hw.cell 1; go_simp⟩) hS ?_
  simp only [Act.put, List.getElem_toArray, List.getElem_cons_succ, List.getElem_cons_zero, List.setIfInBounds_toArray, List.set_cons_zero, List.set_cons_succ]
  refine S_take (i := 4) (v := .pointer (some ⟨W.heap.size, 7, none⟩)) rfl rfl (by kernel_rfl) (by kernel_rfl) (by kernel_rfl) (fun _ _ _ h => h) (Or.inl ⟨by rfl, fun W' hw => by go_simp⟩) hS ?_
  simp only [Act.put, List.getElem_toArray, List.getElem_cons_succ, List.getElem_cons_zero, List.setIfInBounds_toArray, List.set_cons_zero, List.set_cons_succ]
  refine S_take (i := 5) (v := .agg #[.string (strOf s.vw.par), .int .i64 s.vw.ps, .int .i64 s.vw.ov]) rfl rfl (by kernel_rfl) (by kernel_rfl) (by kernel_rfl) (fun _ _ _ h => h) (Or.inl ⟨by rfl, fun W' hw => by have k7 : W'.cell? ⟨W.heap.size, 7, none⟩ = some (.string (strOf s.vw.par)) := hw.cell 7; have k8 : W'.cell? ⟨W.heap.size, 8, none⟩ = some (.int .i64 s.vw.ps) := hw.cell 8; have k9 : W'.cell? ⟨W.heap.size, 9, none⟩ = some (.int .i64 s.vw.ov) := hw.cell 9; go_simp⟩) hS ?_
  simp only [Act.put, List.getElem_toArray, List.getElem_cons_succ, List.getElem_cons_zero, List.setIfInBounds_toArray, List.set_cons_zero, List.set_cons_succ]
  refine S_take (i := 6) (v := .pointer (some ⟨g, 0, none⟩)) rfl rfl (by kernel_rfl) (by kernel_rfl) (by kernel_rfl) (fun _ _ _ h => h) (Or.inl ⟨by rfl, fun W' hw => by go_simp⟩) hS ?_
  simp only [Act.put, List.getElem_toArray, List.getElem_cons_succ, List.getElem_cons_zero, List.setIfInBounds_toArray, List.set_cons_zero, List.set_cons_succ]
  refine S_take (i := 7) (v := .pointer (some ⟨g, 1, none⟩)) rfl rfl (by kernel_rfl) (by kernel_rfl) (by kernel_rfl) (fun _ _ _ h => h) (Or.inl ⟨by rfl, fun W' hw => by go_simp⟩) hS ?_
  simp only [Act.put, List.getElem_toArray, List.getElem_cons_succ, List.getElem_cons_zero, List.setIfInBounds_toArray, List.set_cons_zero, List.set_cons_succ]
  refine L_one (j := 8) (by kernel_rfl) rfl (by rfl) ?_
  simp only [Act.put, List.getElem_toArray, List.getElem_cons_succ, List.getElem_cons_zero, List.setIfInBounds_toArray, List.set_cons_zero, List.set_cons_succ]
  refine wp_setq 3 (.tmp 13) (.tmp 9) rfl g 1 36 _ (.int .i64 s.vw.size) rfl rfl KP (by simp) (by kernel_rfl) rfl ?_
  intro w8 K8 o8 s8
  have hS : Blk w8 W.heap.size 66 #[.int .i64 s.num, .int .i64 s.vw.size, .string (strOf s.name), .bool s.vw.on, .bool s.vw.good, .bool s.prot, .slice s.vw.M s.vw.row.length s.vw.cm, .string (strOf s.vw.par), .int .i64 s.vw.ps, .int .i64 s.vw.ov, .slice s.C s.ch.length s.cc] := hS.only o8 (by intro h; simp at h; exact HNE.out.1 h.symm)
  refine ⟨hS, ?_⟩
  simp only [Act.put, List.getElem_toArray, List.getElem_cons_succ, List.getElem_cons_zero, List.setIfInBounds_toArray, List.set_cons_zero, List.set_cons_succ]
  refine S_take (i := 9) (v := .pointer (some ⟨g, 0, none⟩)) rfl rfl (by kernel_rfl) (by kernel_rfl) (by kernel_rfl) (fun _ _ _ h => h) (Or.inl ⟨by rfl, fun W' hw => by go_simp⟩) hS ?_
  simp only [Act.put, List.getElem_toArray, List.getElem_cons_succ, List.getElem_cons_zero, List.setIfInBounds_toArray, List.set_cons_zero, List.set_cons_succ]
  refine S_take (i := 10) (v := .pointer (some ⟨g, 8, none⟩)) rfl rfl (by kernel_rfl) (by kernel_rfl) (by kernel_rfl) (fun _ _ _ h => h) (Or.inl ⟨by rfl, fun W' hw => by go_simp⟩) hS ?_
  simp only [Act.put, List.getElem_toArray, List.getElem_cons_succ, List.getElem_cons_zero, List.setIfInBounds_toArray, List.set_cons_zero, List.set_cons_succ]
  refine L_one (j := 11) (by kernel_rfl) rfl (by rfl) ?_
  simp only [Act.put, List.getElem_toArray, List.getElem_cons_succ, List.getElem_cons_zero, List.setIfInBounds_toArray, List.set_cons_zero, List.set_cons_succ]
  refine wp_set3 34 (.tmp 15) (.tmp 11) rfl g 8 36 _ (.string (strOf s.vw.par)) (.int .i64 s.vw.ps) (.int .i64 s.vw.ov) rfl rfl K8 (by simp) (by kernel_rfl) rfl rfl rfl ?_
  intro w9 K9 o9 s9
  have hS : Blk w9 W.heap.size 66 #[.int .i64 s.num, .int .i64 s.vw.size, .string (strOf s.name), .bool s.vw.on, .bool s.vw.good, .bool s.prot, .slice s.vw.M s.vw.row.length s.vw.cm, .string (strOf s.vw.par), .int .i64 s.vw.ps, .int .i64 s.vw.ov, .slice s.C s.ch.length s.cc] := hS.only o9 (by intro h; simp at h; exact HNE.out.1 h.symm)
  refine ⟨hS, ?_⟩
  simp only [Act.put, List.getElem_toArray, List.getElem_cons_succ, List.getElem_cons_zero, List.setIfInBounds_toArray, List.set_cons_zero, List.set_cons_succ]
  refine L_done (by kernel_rfl) ?_
  refine NoPanic.normal ?_
  have KC : Blk w9 g 36 #[.int .i64 c.id, .int .i64 s.vw.size, .int .i64 c.obj, .int .i64 c.seq, .slice c.S c.sn.length c.cs', .bool c.vw.on, .bool c.vw.good, .slice c.vw.M c.vw.row.length c.vw.cm, .string (strOf s.vw.par), .int .i64 s.vw.ps, .int .i64 s.vw.ov, .int .i64 c.ow, .int .i64 c.it, .int .i64 c.tg] := K9
  have HO : Hid (Only [g] W w9 ∧ w9.heap.size = W.heap.size + 1 ∧ Blk w9 W.heap.size 66 #[.int .i64 s.num, .int .i64 s.vw.size, .string (strOf s.name), .bool s.vw.on, .bool s.vw.good, .bool s.prot, .slice s.vw.M s.vw.row.length s.vw.cm, .string (strOf s.vw.par), .int .i64 s.vw.ps, .int .i64 s.vw.ov, .slice s.C s.ch.length s.cc] ∧ Blk w9 g 36 #[.int .i64 c.id, .int .i64 s.vw.size, .int .i64 c.obj, .int .i64 c.seq, .slice c.S c.sn.length c.cs', .bool c.vw.on, .bool c.vw.good, .slice c.vw.M c.vw.row.length c.vw.cm, .string (strOf s.vw.par), .int .i64 s.vw.ps, .int .i64 s.vw.ov, .int .i64 c.ow, .int .i64 c.it, .int .i64 c.tg]) := Lib.hid ⟨((Only.of_below H1.out.1 _).drew.trans o8 (fun x hx => .inl hx)).trans o9 (fun x hx => .inl hx), by rw [s9, s8]; exact H1.out.2.1, hS, KC⟩
  have q5 : w9.cell? ⟨g, 5, none⟩ = some (.bool c.vw.on) := KC.cell 5
  clear hS KP K8 o8 s8 K9 o9 s9 HG1
  cases hon : c.vw.on with
  | true =>
    have HON := Lib.hid hon
    rw [hon] at q5
    clear hon
    cases hgd : c.vw.good with
    | true => as_aux_lemma =>
      have HGD := Lib.hid hgd
      clear hgd
      have KC1 : Blk w9 g 36 #[.int .i64 c.id, .int .i64 s.vw.size, .int .i64 c.obj, .int .i64 c.seq, .slice c.S c.sn.length c.cs', .bool true, .bool true, .slice c.vw.M c.vw.row.length c.vw.cm, .string (strOf s.vw.par), .int .i64 s.vw.ps, .int .i64 s.vw.ov, .int .i64 c.ow, .int .i64 c.it, .int .i64 c.tg] := by have h := KC; rw [HON.out, HGD.out] at h; exact h
      have c6 : w9.cell? ⟨W.heap.size, 6, none⟩ = some (.slice s.vw.M s.vw.row.length s.vw.cm) := HO.out.2.2.1.cell 6
      clear KC
      go_wp2_with (first
        | (have _h := KC1; refine wpList_setq rfl 33 (.tmp 24) (.tmp 22) rfl g 7 36 _ (.slice s.vw.M s.vw.row.length s.vw.cm) rfl rfl KC1 (by simp) (by kernel_rfl) rfl ?_; clear _h KC1; intro w10 K10 o10 s10; have KE : Blk w10 g 36 #[.int .i64 c.id, .int .i64 s.vw.size, .int .i64 c.obj, .int .i64 c.seq, .slice c.S c.sn.length c.cs', .bool true, .bool true, .slice s.vw.M s.vw.row.length s.vw.cm, .string (strOf s.vw.par), .int .i64 s.vw.ps, .int .i64 s.vw.ov, .int .i64 c.ow, .int .i64 c.it, .int .i64 c.tg] := K10; have q6 : w10.cell? ⟨g, 6, none⟩ = some (.bool true) := K10.cell 6; have c4 : w10.cell? ⟨W.heap.size, 4, none⟩ = some (.bool s.vw.good) := (HO.out.2.2.1.only o10 (by intro h; simp at h; exact HNE.out.1 h.symm)).cell 4; have HO2 : Hid (Only [g] W w10) := Lib.hid (HO.out.1.trans o10 (fun x hx => .inl hx)); clear K10 o10 s10)
        | (have _h := KE; refine wpList_setq rfl 4 (.tmp 35) (.tmp 33) rfl g 6 36 _ (.bool s.vw.good) rfl rfl KE (by simp) (by kernel_rfl) rfl ?_; clear _h KE; intro w11 K11 o11 s11))
      have o12 : Only [g] W w11 := HO2.out.trans o11 (fun x hx => .inl hx)
      clear o11 s11 HO2 q6 c4 HO q5 c6
      obtain ⟨c2, hc2⟩ : ∃ c2 : HA, c2 = ({ c with vw := { c.vw with size := s.vw.size, on := true, good := s.vw.good, par := s.vw.par, ps := s.vw.ps, ov := s.vw.ov, row := s.vw.row, M := s.vw.M, cm := s.vw.cm } } : HA) := ⟨_, rfl⟩
      have HC2 := Lib.hid hc2
      have n2 : c2.N w11 base [] := by
        have h1 := HK.out.2.1.stay HK.out.1 o12
        have h2 := HK.out.2.2.2.2.2.stay (stay_only HK.out.1 (by decide) (by decide) o12)
        rw [hc2]
        exact ⟨⟨h2.vw.own, fun _ _ h => (by cases h), h2.vw.ok, h2.vw.par, h2.vw.size, h2.vw.ps, h2.vw.ov, h2.vw.pl⟩, h1.sn, h1.own, h1.id, h1.obj, h1.seq, h1.ow, h1.it, h1.tg⟩
      have k2 : Blk w11 g 36 c2.cs := by rw [hc2]; exact K11
      have HFT := Lib.hid (fit_any w11 base g c2 (Nat.le_trans HK.out.2.2.1 o12.size) HK.out.2.2.2.1 k2 n2 (Nat.lt_of_lt_of_le HNE.out.2 o12.size) (by rw [hc2]; exact HS.out.1) (by rw [hc2]; exact HS.out.2.1))
      have H2 := Lib.hid (And.intro n2 (And.intro k2 o12))
      clear hc2 n2 k2 K11 o12
      go_wp2_with fail
      refine HFT.out.mono ?_
      rintro e w6 ⟨rfl, o6, c3, k3, n3, v3, sn3, S3, on3, M3, g3⟩
      obtain ⟨n, hn⟩ : ∃ n, n = c3.vw.row.length := ⟨_, rfl⟩
      have HB6 : Hid (Below base W w6) := Lib.hid ((H2.out.2.2.below (fun x hx => by simp at hx; have := HK.out.2.2.2.1; omega) HK.out.2.2.1).trans (o6.below (fun x hx => by simp at hx; have := HK.out.2.2.2.1; omega) (Nat.le_trans HK.out.2.2.1 H2.out.2.2.size)))
      have HV3 : Hid ({ c3.v with mx := backM c3.v.mx } = bringV c.v s.v) := Lib.hid (by
        rw [v3, HC2.out]
        unfold bringV
        have e1 : c.v.mx.on = true := HON.out
        have e2 : c.v.mx.good = true := HGD.out
        rw [e1, e2]
        rfl)
      have HFAR : Hid (∀ x ∈ c3.sn, ∀ q ∈ rowOf (.slice x.vw.M 0 0), q ∉ rowOf (.slice c3.vw.M 0 0)) := Lib.hid fun x hx q hq => by
        rw [sn3] at hx
        obtain ⟨gm, e1, e2⟩ := g3 (by rw [HC2.out])
        rw [e1]; intro hm; simp [rowOf, Value.ownBlock] at hm; have := (H2.out.1.sn x hx).vw.under hq; omega
      have HN9 : Hid (n ≤ 1000000) := Lib.hid (by
        obtain ⟨j, h1, h2⟩ := objs_few (s := s.vw.size) (o := c.obj) HS.out.1 HS.out.2.1
        have hr : c3.vw.row = (fitV c2.v).mx.row := congrArg (fun v : HdV => v.mx.row) v3
        rw [hn, hr, HC2.out]
        show (sizedM _ _).length ≤ _; rw [sizedM_len]; show (objsOf s.vw.size c.obj).toNat ≤ _; rw [h1]; simp; omega)
      have HFIN : Hid (Blk w6 g 36 c3.cs ∧ c3.N w6 base [] ∧ n = c3.vw.row.length) := Lib.hid ⟨k3, n3, hn⟩
      have HF0 : Hid (Bak w6 base c3.vw.M n c3.vw.cm c3.vw.row 0 w6) := Lib.hid ⟨Only.refl _ _, by rw [bakK_zero, hn]; exact n3.vw.own⟩
      have q7 : w6.cell? ⟨g, 7, none⟩ = some (.slice c3.vw.M n c3.vw.cm) := by rw [hn]; exact k3.cell 7
      obtain ⟨M, hM⟩ : ∃ M, M = c3.vw.M := ⟨_, rfl⟩
      rw [← hM] at q7 HF0
      have HM := Lib.hid hM
      clear HFT k3 n3 v3 sn3 S3 on3 M3 g3 o6 hn hM H2
      go_wp2_with fail
      go_loopw [43] (fun i wr => ∃ k : Nat, i = .int .i64 k ∧ k ≤ n ∧ Bak w6 base M n c3.vw.cm c3.vw.row k wr) (fun i _ => n - (intOf i).toNat)
      case atStart => exact ⟨0, rfl, Nat.zero_le _, HF0.out⟩
      case round =>
        obtain ⟨k, rfl, hk, hF⟩ := hrel
        have HF := Lib.hid hF
        clear hF
        by_cases hlt : k < n
        · have d1 : decide ((k : Int) < (n : Int)) = true := decide_eq_true (by omega)
          have hk9 : k ≤ 1000000 := by have := HN9.out; omega
          have hwk : IntKind.i64.wrap ((k : Int) + 1) = (k : Int) + 1 := by rw [IntKind.wrap_i64]; omega
          obtain ⟨gM, rfl⟩ : ∃ gM, M = some ⟨gM, 0, none⟩ := by
            rcases HF.out.own.2 with ⟨h, h0⟩ | ⟨g', cap, cur, hv, -⟩
            · omega
            · injection hv with h; exact ⟨g', h⟩
          obtain ⟨a, ha⟩ : ∃ a, a = mk c3.vw.row k := ⟨_, rfl⟩
          have kg : Blk wr g 36 c3.cs := HFIN.out.1.only HF.out.o (fun h => by
            obtain ⟨cs, kb⟩ := HFIN.out.2.1.vw.ty (by rw [← HM.out]; exact h)
            exact kb.ne_ HFIN.out.1 (by decide) rfl)
          have c7 : wr.cell? ⟨g, 7, none⟩ = some (.slice (some ⟨gM, 0, none⟩) n c3.vw.cm) := by
            have := kg.cell 7
            rw [this, HM.out, HFIN.out.2.2]
            rfl
          have ca : wr.cell? ⟨gM, k, none⟩ = some (.int .u8 (a : Int)) := by
            rw [World.ownsRow.cellAt HF.out.own k (by omega), u8s_at, bakK_at c3.vw.row k (by rw [← HFIN.out.2.2]; exact hlt), if_neg (by omega), ← ha]
            rfl
          have HST : Hid (bakK c3.vw.row (k + 1) = (bakK c3.vw.row k).set k (bak1 a)) := Lib.hid (by rw [ha]; exact bakK_step c3.vw.row (by rw [← HFIN.out.2.2]; exact hlt))
          have HSM : Hid (bak1 a = a → bakK c3.vw.row (k + 1) = bakK c3.vw.row k) := Lib.hid fun h => by
            rw [HST.out, h]
            exact list_set_at (by rw [bakK_at c3.vw.row k (by rw [← HFIN.out.2.2]; exact hlt), if_neg (by omega), ← ha])
          clear ha kg
          by_cases h3 : a = 3
          · subst h3
            have e3 : ((((3 : Nat)) : Int) == 3) = true := rfl
            have HOW := Lib.hid HF.out.own
            go_wp2_with (have _h := HOW; refine wpList_setrow rfl 5 (.tmp 59) (.const (.int .u8 1)) rfl gM k 5 base 1 n c3.vw.cm (u8s (bakK c3.vw.row k)) (.int .u8 1) rfl rfl HOW.out (by rw [u8s_length, bakK_len, ← HFIN.out.2.2]; exact hlt) (by kernel_rfl) rfl ?_; clear _h HOW; intro w9 K9 o9 s9)
            have HE : Hid (Bak w6 base (some ⟨gM, 0, none⟩) n c3.vw.cm c3.vw.row (k + 1) w9) := Lib.hid ⟨HF.out.o.trans o9 (fun x hx => .inl (by simp [rowOf, Value.ownBlock] at hx ⊢; exact hx)), by unfold Own; rw [HST.out, show bak1 3 = 1 from rfl, u8s_set]; exact K9⟩
            clear K9 o9 s9
            exact ⟨⟨k + 1, by go_num, by omega, HE.out⟩, by simp only [intOf]; omega⟩
          · have e3 : ((a : Int) == 3) = false := beq_eq_false_iff_ne.2 (by omega)
            by_cases h2 : a = 2
            · subst h2
              have e2 : ((((2 : Nat)) : Int) == 2) = true := rfl
              have HOW := Lib.hid HF.out.own
              go_wp2_with (have _h := HOW; refine wpList_setrow rfl 5 (.tmp 59) (.const (.int .u8 1)) rfl gM k 5 base 1 n c3.vw.cm (u8s (bakK c3.vw.row k)) (.int .u8 1) rfl rfl HOW.out (by rw [u8s_length, bakK_len, ← HFIN.out.2.2]; exact hlt) (by kernel_rfl) rfl ?_; clear _h HOW; intro w9 K9 o9 s9)
              have HE : Hid (Bak w6 base (some ⟨gM, 0, none⟩) n c3.vw.cm c3.vw.row (k + 1) w9) := Lib.hid ⟨HF.out.o.trans o9 (fun x hx => .inl (by simp [rowOf, Value.ownBlock] at hx ⊢; exact hx)), by unfold Own; rw [HST.out, show bak1 2 = 1 from rfl, u8s_set]; exact K9⟩
              clear K9 o9 s9
              exact ⟨⟨k + 1, by go_num, by omega, HE.out⟩, by simp only [intOf]; omega⟩
            · have e2 : ((a : Int) == 2) = false := beq_eq_false_iff_ne.2 (by omega)
              go_wp2
              exact ⟨⟨k + 1, by go_num, by omega, HF.out.o, by rw [HSM.out (by unfold bak1; rw [if_neg (by omega)])]; exact HF.out.own⟩, by simp only [intOf]; omega⟩
        · have d1 : decide ((k : Int) < (n : Int)) = false := decide_eq_false (by omega)
          obtain rfl : k = n := by omega
          go_wp2
          refine bodyPost_end (results_none rfl _ _ _) rfl ?_
          have h9 := row_head (row := c3.vw.row.map bak1) (Nat.le_trans HK.out.2.2.1 HB6.out.size) HFIN.out.1 HFIN.out.2.1 HFAR.out (by simp) (fun x hx => by obtain ⟨y, hy, rfl⟩ := List.mem_map.1 hx; exact bak1_lt (HFIN.out.2.1.vw.ok y hy)) (by rw [← HM.out]; exact HF.out.o) (by
            have h := HF.out.own
            rw [HFIN.out.2.2, bakK_all, HM.out] at h
            exact h)
          exact ⟨rfl, HB6.out.trans h9.2.2, _, h9.1, h9.2.1, HV3.out⟩
    | false => as_aux_lemma =>
      have HGD := Lib.hid hgd
      clear hgd
      have KC1 : Blk w9 g 36 #[.int .i64 c.id, .int .i64 s.vw.size, .int .i64 c.obj, .int .i64 c.seq, .slice c.S c.sn.length c.cs', .bool true, .bool false, .slice c.vw.M c.vw.row.length c.vw.cm, .string (strOf s.vw.par), .int .i64 s.vw.ps, .int .i64 s.vw.ov, .int .i64 c.ow, .int .i64 c.it, .int .i64 c.tg] := by have h := KC; rw [HON.out, HGD.out] at h; exact h
      have c6 : w9.cell? ⟨W.heap.size, 6, none⟩ = some (.slice s.vw.M s.vw.row.length s.vw.cm) := HO.out.2.2.1.cell 6
      clear KC
      go_wp2_with (first
        | (have _h := KC1; refine wpList_setq rfl 33 (.tmp 24) (.tmp 22) rfl g 7 36 _ (.slice s.vw.M s.vw.row.length s.vw.cm) rfl rfl KC1 (by simp) (by kernel_rfl) rfl ?_; clear _h KC1; intro w10 K10 o10 s10; have KE : Blk w10 g 36 #[.int .i64 c.id, .int .i64 s.vw.size, .int .i64 c.obj, .int .i64 c.seq, .slice c.S c.sn.length c.cs', .bool true, .bool false, .slice s.vw.M s.vw.row.length s.vw.cm, .string (strOf s.vw.par), .int .i64 s.vw.ps, .int .i64 s.vw.ov, .int .i64 c.ow, .int .i64 c.it, .int .i64 c.tg] := K10; have q6 : w10.cell? ⟨g, 6, none⟩ = some (.bool false) := K10.cell 6; have c4 : w10.cell? ⟨W.heap.size, 4, none⟩ = some (.bool s.vw.good) := (HO.out.2.2.1.only o10 (by intro h; simp at h; exact HNE.out.1 h.symm)).cell 4; have HO2 : Hid (Only [g] W w10) := Lib.hid (HO.out.1.trans o10 (fun x hx => .inl hx)); clear K10 o10 s10)
        | (have _h := KE; refine wpList_setq rfl 4 (.tmp 35) (.tmp 33) rfl g 6 36 _ (.bool false) rfl rfl KE (by simp) (by kernel_rfl) rfl ?_; clear _h KE; intro w11 K11 o11 s11))
      have o12 : Only [g] W w11 := HO2.out.trans o11 (fun x hx => .inl hx)
      clear o11 s11 HO2 q6 c4 HO q5 c6
      obtain ⟨c2, hc2⟩ : ∃ c2 : HA, c2 = ({ c with vw := { c.vw with size := s.vw.size, on := true, good := false, par := s.vw.par, ps := s.vw.ps, ov := s.vw.ov, row := s.vw.row, M := s.vw.M, cm := s.vw.cm } } : HA) := ⟨_, rfl⟩
      have HC2 := Lib.hid hc2
      have n2 : c2.N w11 base [] := by
        have h1 := HK.out.2.1.stay HK.out.1 o12
        have h2 := HK.out.2.2.2.2.2.stay (stay_only HK.out.1 (by decide) (by decide) o12)
        rw [hc2]
        exact ⟨⟨h2.vw.own, fun _ _ h => (by cases h), h2.vw.ok, h2.vw.par, h2.vw.size, h2.vw.ps, h2.vw.ov, h2.vw.pl⟩, h1.sn, h1.own, h1.id, h1.obj, h1.seq, h1.ow, h1.it, h1.tg⟩
      have k2 : Blk w11 g 36 c2.cs := by rw [hc2]; exact K11
      have HFT := Lib.hid (fit_any w11 base g c2 (Nat.le_trans HK.out.2.2.1 o12.size) HK.out.2.2.2.1 k2 n2 (Nat.lt_of_lt_of_le HNE.out.2 o12.size) (by rw [hc2]; exact HS.out.1) (by rw [hc2]; exact HS.out.2.1))
      have H2 := Lib.hid (And.intro n2 (And.intro k2 o12))
      clear hc2 n2 k2 K11 o12
      go_wp2_with fail
      refine HFT.out.mono ?_
      rintro e w6 ⟨rfl, o6, c3, k3, n3, v3, sn3, S3, on3, M3, g3⟩
      obtain ⟨n, hn⟩ : ∃ n, n = c3.vw.row.length := ⟨_, rfl⟩
      have HB6 : Hid (Below base W w6) := Lib.hid ((H2.out.2.2.below (fun x hx => by simp at hx; have := HK.out.2.2.2.1; omega) HK.out.2.2.1).trans (o6.below (fun x hx => by simp at hx; have := HK.out.2.2.2.1; omega) (Nat.le_trans HK.out.2.2.1 H2.out.2.2.size)))
      have HV3 : Hid ({ c3.v with mx := backM c3.v.mx } = bringV c.v s.v) := Lib.hid (by
        rw [v3, HC2.out]
        unfold bringV
        have e1 : c.v.mx.on = true := HON.out
        have e2 : c.v.mx.good = false := HGD.out
        rw [e1, e2]
        rfl)
      have HFAR : Hid (∀ x ∈ c3.sn, ∀ q ∈ rowOf (.slice x.vw.M 0 0), q ∉ rowOf (.slice c3.vw.M 0 0)) := Lib.hid fun x hx q hq => by
        rw [sn3] at hx
        obtain ⟨gm, e1, e2⟩ := g3 (by rw [HC2.out])
        rw [e1]; intro hm; simp [rowOf, Value.ownBlock] at hm; have := (H2.out.1.sn x hx).vw.under hq; omega
      have HN9 : Hid (n ≤ 1000000) := Lib.hid (by
        obtain ⟨j, h1, h2⟩ := objs_few (s := s.vw.size) (o := c.obj) HS.out.1 HS.out.2.1
        have hr : c3.vw.row = (fitV c2.v).mx.row := congrArg (fun v : HdV => v.mx.row) v3
        rw [hn, hr, HC2.out]
        show (sizedM _ _).length ≤ _; rw [sizedM_len]; show (objsOf s.vw.size c.obj).toNat ≤ _; rw [h1]; simp; omega)
      have HFIN : Hid (Blk w6 g 36 c3.cs ∧ c3.N w6 base [] ∧ n = c3.vw.row.length) := Lib.hid ⟨k3, n3, hn⟩
      have HF0 : Hid (Bak w6 base c3.vw.M n c3.vw.cm c3.vw.row 0 w6) := Lib.hid ⟨Only.refl _ _, by rw [bakK_zero, hn]; exact n3.vw.own⟩
      have q7 : w6.cell? ⟨g, 7, none⟩ = some (.slice c3.vw.M n c3.vw.cm) := by rw [hn]; exact k3.cell 7
      obtain ⟨M, hM⟩ : ∃ M, M = c3.vw.M := ⟨_, rfl⟩
      rw [← hM] at q7 HF0
      have HM := Lib.hid hM
      clear HFT k3 n3 v3 sn3 S3 on3 M3 g3 o6 hn hM H2
      go_wp2_with fail
      go_loopw [43] (fun i wr => ∃ k : Nat, i = .int .i64 k ∧ k ≤ n ∧ Bak w6 base M n c3.vw.cm c3.vw.row k wr) (fun i _ => n - (intOf i).toNat)
      case atStart => exact ⟨0, rfl, Nat.zero_le _, HF0.out⟩
      case round =>
        obtain ⟨k, rfl, hk, hF⟩ := hrel
        have HF := Lib.hid hF
        clear hF
        by_cases hlt : k < n
        · have d1 : decide ((k : Int) < (n : Int)) = true := decide_eq_true (by omega)
          have hk9 : k ≤ 1000000 := by have := HN9.out; omega
          have hwk : IntKind.i64.wrap ((k : Int) + 1) = (k : Int) + 1 := by rw [IntKind.wrap_i64]; omega
          obtain ⟨gM, rfl⟩ : ∃ gM, M = some ⟨gM, 0, none⟩ := by
            rcases HF.out.own.2 with ⟨h, h0⟩ | ⟨g', cap, cur, hv, -⟩
            · omega
            · injection hv with h; exact ⟨g', h⟩
          obtain ⟨a, ha⟩ : ∃ a, a = mk c3.vw.row k := ⟨_, rfl⟩
          have kg : Blk wr g 36 c3.cs := HFIN.out.1.only HF.out.o (fun h => by
            obtain ⟨cs, kb⟩ := HFIN.out.2.1.vw.ty (by rw [← HM.out]; exact h)
            exact kb.ne_ HFIN.out.1 (by decide) rfl)
          have c7 : wr.cell? ⟨g, 7, none⟩ = some (.slice (some ⟨gM, 0, none⟩) n c3.vw.cm) := by
            have := kg.cell 7
            rw [this, HM.out, HFIN.out.2.2]
            rfl
          have ca : wr.cell? ⟨gM, k, none⟩ = some (.int .u8 (a : Int)) := by
            rw [World.ownsRow.cellAt HF.out.own k (by omega), u8s_at, bakK_at c3.vw.row k (by rw [← HFIN.out.2.2]; exact hlt), if_neg (by omega), ← ha]
            rfl
          have HST : Hid (bakK c3.vw.row (k + 1) = (bakK c3.vw.row k).set k (bak1 a)) := Lib.hid (by rw [ha]; exact bakK_step c3.vw.row (by rw [← HFIN.out.2.2]; exact hlt))
          have HSM : Hid (bak1 a = a → bakK c3.vw.row (k + 1) = bakK c3.vw.row k) := Lib.hid fun h => by
            rw [HST.out, h]
            exact list_set_at (by rw [bakK_at c3.vw.row k (by rw [← HFIN.out.2.2]; exact hlt), if_neg (by omega), ← ha])
          clear ha kg
          by_cases h3 : a = 3
          · subst h3
            have e3 : ((((3 : Nat)) : Int) == 3) = true := rfl
            have HOW := Lib.hid HF.out.own
            go_wp2_with (have _h := HOW; refine wpList_setrow rfl 5 (.tmp 59) (.const (.int .u8 1)) rfl gM k 5 base 1 n c3.vw.cm (u8s (bakK c3.vw.row k)) (.int .u8 1) rfl rfl HOW.out (by rw [u8s_length, bakK_len, ← HFIN.out.2.2]; exact hlt) (by kernel_rfl) rfl ?_; clear _h HOW; intro w9 K9 o9 s9)
            have HE : Hid (Bak w6 base (some ⟨gM, 0, none⟩) n c3.vw.cm c3.vw.row (k + 1) w9) := Lib.hid ⟨HF.out.o.trans o9 (fun x hx => .inl (by simp [rowOf, Value.ownBlock] at hx ⊢; exact hx)), by unfold Own; rw [HST.out, show bak1 3 = 1 from rfl, u8s_set]; exact K9⟩
            clear K9 o9 s9
            exact ⟨⟨k + 1, by go_num, by omega, HE.out⟩, by simp only [intOf]; omega⟩
          · have e3 : ((a : Int) == 3) = false := beq_eq_false_iff_ne.2 (by omega)
            by_cases h2 : a = 2
            · subst h2
              have e2 : ((((2 : Nat)) : Int) == 2) = true := rfl
              have HOW := Lib.hid HF.out.own
              go_wp2_with (have _h := HOW; refine wpList_setrow rfl 5 (.tmp 59) (.const (.int .u8 1)) rfl gM k 5 base 1 n c3.vw.cm (u8s (bakK c3.vw.row k)) (.int .u8 1) rfl rfl HOW.out (by rw [u8s_length, bakK_len, ← HFIN.out.2.2]; exact hlt) (by kernel_rfl) rfl ?_; clear _h HOW; intro w9 K9 o9 s9)
              have HE : Hid (Bak w6 base (some ⟨gM, 0, none⟩) n c3.vw.cm c3.vw.row (k + 1) w9) := Lib.hid ⟨HF.out.o.trans o9 (fun x hx => .inl (by simp [rowOf, Value.ownBlock] at hx ⊢; exact hx)), by unfold Own; rw [HST.out, show bak1 2 = 1 from rfl, u8s_set]; exact K9⟩
              clear K9 o9 s9
              exact ⟨⟨k + 1, by go_num, by omega, HE.out⟩, by simp only [intOf]; omega⟩
            · have e2 : ((a : Int) == 2) = false := beq_eq_false_iff_ne.2 (by omega)
              go_wp2
              exact ⟨⟨k + 1, by go_num, by omega, HF.out.o, by rw [HSM.out (by unfold bak1; rw [if_neg (by omega)])]; exact HF.out.own⟩, by simp only [intOf]; omega⟩
        · have d1 : decide ((k : Int) < (n : Int)) = false := decide_eq_false (by omega)
          obtain rfl : k = n := by omega
          go_wp2
          refine bodyPost_end (results_none rfl _ _ _) rfl ?_
          have h9 := row_head (row := c3.vw.row.map bak1) (Nat.le_trans HK.out.2.2.1 HB6.out.size) HFIN.out.1 HFIN.out.2.1 HFAR.out (by simp) (fun x hx => by obtain ⟨y, hy, rfl⟩ := List.mem_map.1 hx; exact bak1_lt (HFIN.out.2.1.vw.ok y hy)) (by rw [← HM.out]; exact HF.out.o) (by
            have h := HF.out.own
            rw [HFIN.out.2.2, bakK_all, HM.out] at h
            exact h)
          exact ⟨rfl, HB6.out.trans h9.2.2, _, h9.1, h9.2.1, HV3.out⟩
  | false =>
    have HON := Lib.hid hon
    rw [hon] at q5
    clear hon
    cases hgd : c.vw.good with
    | true => as_aux_lemma =>
      have HGD := Lib.hid hgd
      clear hgd
      have KE : Blk w9 g 36 #[.int .i64 c.id, .int .i64 s.vw.size, .int .i64 c.obj, .int .i64 c.seq, .slice c.S c.sn.length c.cs', .bool false, .bool true, .slice c.vw.M c.vw.row.length c.vw.cm, .string (strOf s.vw.par), .int .i64 s.vw.ps, .int .i64 s.vw.ov, .int .i64 c.ow, .int .i64 c.it, .int .i64 c.tg] := by have h := KC; rw [HON.out, HGD.out] at h; exact h
      have q6 : w9.cell? ⟨g, 6, none⟩ = some (.bool true) := KE.cell 6
      have c4 : w9.cell? ⟨W.heap.size, 4, none⟩ = some (.bool s.vw.good) := HO.out.2.2.1.cell 4
      clear KC
      go_wp2_with (have _h := KE; refine wpList_setq rfl 4 (.tmp 35) (.tmp 33) rfl g 6 36 _ (.bool s.vw.good) rfl rfl KE (by simp) (by kernel_rfl) rfl ?_; clear _h KE; intro w11 K11 o11 s11)
      have o12 : Only [g] W w11 := HO.out.1.trans o11 (fun x hx => .inl hx)
      clear o11 s11 q6 c4 HO q5
      obtain ⟨c2, hc2⟩ : ∃ c2 : HA, c2 = ({ c with vw := { c.vw with size := s.vw.size, on := false, good := s.vw.good, par := s.vw.par, ps := s.vw.ps, ov := s.vw.ov } } : HA) := ⟨_, rfl⟩
      have HC2 := Lib.hid hc2
      have n2 : c2.N w11 base [] := by
        have h1 := HK.out.2.1.stay HK.out.1 o12
        have h2 := HK.out.2.2.2.2.2.stay (stay_only HK.out.1 (by decide) (by decide) o12)
        rw [hc2]
        exact ⟨⟨h1.vw.own, fun _ _ h => (by cases h), h1.vw.ok, h2.vw.par, h2.vw.size, h2.vw.ps, h2.vw.ov, h2.vw.pl⟩, h1.sn, h1.own, h1.id, h1.obj, h1.seq, h1.ow, h1.it, h1.tg⟩
      have k2 : Blk w11 g 36 c2.cs := by rw [hc2]; exact K11
      have HFT := Lib.hid (fit_any w11 base g c2 (Nat.le_trans HK.out.2.2.1 o12.size) HK.out.2.2.2.1 k2 n2 (Nat.lt_of_lt_of_le HNE.out.2 o12.size) (by rw [hc2]; exact HS.out.1) (by rw [hc2]; exact HS.out.2.1))
      have H2 := Lib.hid (And.intro n2 (And.intro k2 o12))
      clear hc2 n2 k2 K11 o12
      go_wp2_with fail
      refine HFT.out.mono ?_
      rintro e w6 ⟨rfl, o6, c3, k3, n3, v3, sn3, S3, on3, M3, g3⟩
      obtain ⟨n, hn⟩ : ∃ n, n = c3.vw.row.length := ⟨_, rfl⟩
      have HB6 : Hid (Below base W w6) := Lib.hid ((H2.out.2.2.below (fun x hx => by simp at hx; have := HK.out.2.2.2.1; omega) HK.out.2.2.1).trans (o6.below (fun x hx => by simp at hx; have := HK.out.2.2.2.1; omega) (Nat.le_trans HK.out.2.2.1 H2.out.2.2.size)))
      have HV3 : Hid ({ c3.v with mx := backM c3.v.mx } = bringV c.v s.v) := Lib.hid (by
        rw [v3, HC2.out]
        unfold bringV
        have e1 : c.v.mx.on = false := HON.out
        have e2 : c.v.mx.good = true := HGD.out
        rw [e1, e2]
        rfl)
      have HFAR : Hid (∀ x ∈ c3.sn, ∀ q ∈ rowOf (.slice x.vw.M 0 0), q ∉ rowOf (.slice c3.vw.M 0 0)) := Lib.hid fun x hx q hq => by
        rw [sn3] at hx
        rw [M3 (by rw [HC2.out]), HC2.out]
        rw [HC2.out] at hx; exact HK.out.2.2.2.2.1.far hx hq
      have HN9 : Hid (n ≤ 1000000) := Lib.hid (by
        obtain ⟨j, h1, h2⟩ := objs_few (s := s.vw.size) (o := c.obj) HS.out.1 HS.out.2.1
        have hr : c3.vw.row = (fitV c2.v).mx.row := congrArg (fun v : HdV => v.mx.row) v3
        rw [hn, hr, HC2.out]
        show c.vw.row.length ≤ _; rw [HS.out.2.2 HON.out]; simp)
      have HFIN : Hid (Blk w6 g 36 c3.cs ∧ c3.N w6 base [] ∧ n = c3.vw.row.length) := Lib.hid ⟨k3, n3, hn⟩
      have HF0 : Hid (Bak w6 base c3.vw.M n c3.vw.cm c3.vw.row 0 w6) := Lib.hid ⟨Only.refl _ _, by rw [bakK_zero, hn]; exact n3.vw.own⟩
      have q7 : w6.cell? ⟨g, 7, none⟩ = some (.slice c3.vw.M n c3.vw.cm) := by rw [hn]; exact k3.cell 7
      obtain ⟨M, hM⟩ : ∃ M, M = c3.vw.M := ⟨_, rfl⟩
      rw [← hM] at q7 HF0
      have HM := Lib.hid hM
      clear HFT k3 n3 v3 sn3 S3 on3 M3 g3 o6 hn hM H2
      go_wp2_with fail
      go_loopw [43] (fun i wr => ∃ k : Nat, i = .int .i64 k ∧ k ≤ n ∧ Bak w6 base M n c3.vw.cm c3.vw.row k wr) (fun i _ => n - (intOf i).toNat)
      case atStart => exact ⟨0, rfl, Nat.zero_le _, HF0.out⟩
      case round =>
        obtain ⟨k, rfl, hk, hF⟩ := hrel
        have HF := Lib.hid hF
        clear hF
        by_cases hlt : k < n
        · have d1 : decide ((k : Int) < (n : Int)) = true := decide_eq_true (by omega)
          have hk9 : k ≤ 1000000 := by have := HN9.out; omega
          have hwk : IntKind.i64.wrap ((k : Int) + 1) = (k : Int) + 1 := by rw [IntKind.wrap_i64]; omega
          obtain ⟨gM, rfl⟩ : ∃ gM, M = some ⟨gM, 0, none⟩ := by
            rcases HF.out.own.2 with ⟨h, h0⟩ | ⟨g', cap, cur, hv, -⟩
            · omega
            · injection hv with h; exact ⟨g', h⟩
          obtain ⟨a, ha⟩ : ∃ a, a = mk c3.vw.row k := ⟨_, rfl⟩
          have kg : Blk wr g 36 c3.cs := HFIN.out.1.only HF.out.o (fun h => by
            obtain ⟨cs, kb⟩ := HFIN.out.2.1.vw.ty (by rw [← HM.out]; exact h)
            exact kb.ne_ HFIN.out.1 (by decide) rfl)
          have c7 : wr.cell? ⟨g, 7, none⟩ = some (.slice (some ⟨gM, 0, none⟩) n c3.vw.cm) := by
            have := kg.cell 7
            rw [this, HM.out, HFIN.out.2.2]
            rfl
          have ca : wr.cell? ⟨gM, k, none⟩ = some (.int .u8 (a : Int)) := by
            rw [World.ownsRow.cellAt HF.out.own k (by omega), u8s_at, bakK_at c3.vw.row k (by rw [← HFIN.out.2.2]; exact hlt), if_neg (by omega), ← ha]
            rfl
          have HST : Hid (bakK c3.vw.row (k + 1) = (bakK c3.vw.row k).set k (bak1 a)) := Lib.hid (by rw [ha]; exact bakK_step c3.vw.row (by rw [← HFIN.out.2.2]; exact hlt))
          have HSM : Hid (bak1 a = a → bakK c3.vw.row (k + 1) = bakK c3.vw.row k) := Lib.hid fun h => by
            rw [HST.out, h]
            exact list_set_at (by rw [bakK_at c3.vw.row k (by rw [← HFIN.out.2.2]; exact hlt), if_neg (by omega), ← ha])
          clear ha kg
          by_cases h3 : a = 3
          · subst h3
            have e3 : ((((3 : Nat)) : Int) == 3) = true := rfl
            have HOW := Lib.hid HF.out.own
            go_wp2_with (have _h := HOW; refine wpList_setrow rfl 5 (.tmp 59) (.const (.int .u8 1)) rfl gM k 5 base 1 n c3.vw.cm (u8s (bakK c3.vw.row k)) (.int .u8 1) rfl rfl HOW.out (by rw [u8s_length, bakK_len, ← HFIN.out.2.2]; exact hlt) (by kernel_rfl) rfl ?_; clear _h HOW; intro w9 K9 o9 s9)
            have HE : Hid (Bak w6 base (some ⟨gM, 0, none⟩) n c3.vw.cm c3.vw.row (k + 1) w9) := Lib.hid ⟨HF.out.o.trans o9 (fun x hx => .inl (by simp [rowOf, Value.ownBlock] at hx ⊢; exact hx)), by unfold Own; rw [HST.out, show bak1 3 = 1 from rfl, u8s_set]; exact K9⟩
            clear K9 o9 s9
            exact ⟨⟨k + 1, by go_num, by omega, HE.out⟩, by simp only [intOf]; omega⟩
          · have e3 : ((a : Int) == 3) = false := beq_eq_false_iff_ne.2 (by omega)
            by_cases h2 : a = 2
            · subst h2
              have e2 : ((((2 : Nat)) : Int) == 2) = true := rfl
              have HOW := Lib.hid HF.out.own
              go_wp2_with (have _h := HOW; refine wpList_setrow rfl 5 (.tmp 59) (.const (.int .u8 1)) rfl gM k 5 base 1 n c3.vw.cm (u8s (bakK c3.vw.row k)) (.int .u8 1) rfl rfl HOW.out (by rw [u8s_length, bakK_len, ← HFIN.out.2.2]; exact hlt) (by kernel_rfl) rfl ?_; clear _h HOW; intro w9 K9 o9 s9)
              have HE : Hid (Bak w6 base (some ⟨gM, 0, none⟩) n c3.vw.cm c3.vw.row (k + 1) w9) := Lib.hid ⟨HF.out.o.trans o9 (fun x hx => .inl (by simp [rowOf, Value.ownBlock] at hx ⊢; exact hx)), by unfold Own; rw [HST.out, show bak1 2 = 1 from rfl, u8s_set]; exact K9⟩
              clear K9 o9 s9
              exact ⟨⟨k + 1, by go_num, by omega, HE.out⟩, by simp only [intOf]; omega⟩
            · have e2 : ((a : Int) == 2) = false := beq_eq_false_iff_ne.2 (by omega)
              go_wp2
              exact ⟨⟨k + 1, by go_num, by omega, HF.out.o, by rw [HSM.out (by unfold bak1; rw [if_neg (by omega)])]; exact HF.out.own⟩, by simp only [intOf]; omega⟩
        · have d1 : decide ((k : Int) < (n : Int)) = false := decide_eq_false (by omega)
          obtain rfl : k = n := by omega
          go_wp2
          refine bodyPost_end (results_none rfl _ _ _) rfl ?_
          have h9 := row_head (row := c3.vw.row.map bak1) (Nat.le_trans HK.out.2.2.1 HB6.out.size) HFIN.out.1 HFIN.out.2.1 HFAR.out (by simp) (fun x hx => by obtain ⟨y, hy, rfl⟩ := List.mem_map.1 hx; exact bak1_lt (HFIN.out.2.1.vw.ok y hy)) (by rw [← HM.out]; exact HF.out.o) (by
            have h := HF.out.own
            rw [HFIN.out.2.2, bakK_all, HM.out] at h
            exact h)
          exact ⟨rfl, HB6.out.trans h9.2.2, _, h9.1, h9.2.1, HV3.out⟩
    | false => as_aux_lemma =>
      have HGD := Lib.hid hgd
      clear hgd
      have KE : Blk w9 g 36 #[.int .i64 c.id, .int .i64 s.vw.size, .int .i64 c.obj, .int .i64 c.seq, .slice c.S c.sn.length c.cs', .bool false, .bool false, .slice c.vw.M c.vw.row.length c.vw.cm, .string (strOf s.vw.par), .int .i64 s.vw.ps, .int .i64 s.vw.ov, .int .i64 c.ow, .int .i64 c.it, .int .i64 c.tg] := by have h := KC; rw [HON.out, HGD.out] at h; exact h
      have q6 : w9.cell? ⟨g, 6, none⟩ = some (.bool false) := KE.cell 6
      have c4 : w9.cell? ⟨W.heap.size, 4, none⟩ = some (.bool s.vw.good) := HO.out.2.2.1.cell 4
      clear KC
      go_wp2_with (have _h := KE; refine wpList_setq rfl 4 (.tmp 35) (.tmp 33) rfl g 6 36 _ (.bool false) rfl rfl KE (by simp) (by kernel_rfl) rfl ?_; clear _h KE; intro w11 K11 o11 s11)
      have o12 : Only [g] W w11 := HO.out.1.trans o11 (fun x hx => .inl hx)
      clear o11 s11 q6 c4 HO q5
      obtain ⟨c2, hc2⟩ : ∃ c2 : HA, c2 = ({ c with vw := { c.vw with size := s.vw.size, on := false, good := false, par := s.vw.par, ps := s.vw.ps, ov := s.vw.ov } } : HA) := ⟨_, rfl⟩
      have HC2 := Lib.hid hc2
      have n2 : c2.N w11 base [] := by
        have h1 := HK.out.2.1.stay HK.out.1 o12
        have h2 := HK.out.2.2.2.2.2.stay (stay_only HK.out.1 (by decide) (by decide) o12)
        rw [hc2]
        exact ⟨⟨h1.vw.own, fun _ _ h => (by cases h), h1.vw.ok, h2.vw.par, h2.vw.size, h2.vw.ps, h2.vw.ov, h2.vw.pl⟩, h1.sn, h1.own, h1.id, h1.obj, h1.seq, h1.ow, h1.it, h1.tg⟩
      have k2 : Blk w11 g 36 c2.cs := by rw [hc2]; exact K11
      have HFT := Lib.hid (fit_any w11 base g c2 (Nat.le_trans HK.out.2.2.1 o12.size) HK.out.2.2.2.1 k2 n2 (Nat.lt_of_lt_of_le HNE.out.2 o12.size) (by rw [hc2]; exact HS.out.1) (by rw [hc2]; exact HS.out.2.1))
      have H2 := Lib.hid (And.intro n2 (And.intro k2 o12))
      clear hc2 n2 k2 K11 o12
      go_wp2_with fail
      refine HFT.out.mono ?_
      rintro e w6 ⟨rfl, o6, c3, k3, n3, v3, sn3, S3, on3, M3, g3⟩
      obtain ⟨n, hn⟩ : ∃ n, n = c3.vw.row.length := ⟨_, rfl⟩
      have HB6 : Hid (Below base W w6) := Lib.hid ((H2.out.2.2.below (fun x hx => by simp at hx; have := HK.out.2.2.2.1; omega) HK.out.2.2.1).trans (o6.below (fun x hx => by simp at hx; have := HK.out.2.2.2.1; omega) (Nat.le_trans HK.out.2.2.1 H2.out.2.2.size)))
      have HV3 : Hid ({ c3.v with mx := backM c3.v.mx } = bringV c.v s.v) := Lib.hid (by
        rw [v3, HC2.out]
        unfold bringV
        have e1 : c.v.mx.on = false := HON.out
        have e2 : c.v.mx.good = false := HGD.out
        rw [e1, e2]
        rfl)
      have HFAR : Hid (∀ x ∈ c3.sn, ∀ q ∈ rowOf (.slice x.vw.M 0 0), q ∉ rowOf (.slice c3.vw.M 0 0)) := Lib.hid fun x hx q hq => by
        rw [sn3] at hx
        rw [M3 (by rw [HC2.out]), HC2.out]
        rw [HC2.out] at hx; exact HK.out.2.2.2.2.1.far hx hq
      have HN9 : Hid (n ≤ 1000000) := Lib.hid (by
        obtain ⟨j, h1, h2⟩ := objs_few (s := s.vw.size) (o := c.obj) HS.out.1 HS.out.2.1
        have hr : c3.vw.row = (fitV c2.v).mx.row := congrArg (fun v : HdV => v.mx.row) v3
        rw [hn, hr, HC2.out]
        show c.vw.row.length ≤ _; rw [HS.out.2.2 HON.out]; simp)
      have HFIN : Hid (Blk w6 g 36 c3.cs ∧ c3.N w6 base [] ∧ n = c3.vw.row.length) := Lib.hid ⟨k3, n3, hn⟩
      have HF0 : Hid (Bak w6 base c3.vw.M n c3.vw.cm c3.vw.row 0 w6) := Lib.hid ⟨Only.refl _ _, by rw [bakK_zero, hn]; exact n3.vw.own⟩
      have q7 : w6.cell? ⟨g, 7, none⟩ = some (.slice c3.vw.M n c3.vw.cm) := by rw [hn]; exact k3.cell 7
      obtain ⟨M, hM⟩ : ∃ M, M = c3.vw.M := ⟨_, rfl⟩
      rw [← hM] at q7 HF0
      have HM := Lib.hid hM
      clear HFT k3 n3 v3 sn3 S3 on3 M3 g3 o6 hn hM H2
      go_wp2_with fail
      go_loopw [43] (fun i wr => ∃ k : Nat, i = .int .i64 k ∧ k ≤ n ∧ Bak w6 base M n c3.vw.cm c3.vw.row k wr) (fun i _ => n - (intOf i).toNat)
      case atStart => exact ⟨0, rfl, Nat.zero_le _, HF0.out⟩
      case round =>
        obtain ⟨k, rfl, hk, hF⟩ := hrel
        have HF := Lib.hid hF
        clear hF
        by_cases hlt : k < n
        · have d1 : decide ((k : Int) < (n : Int)) = true := decide_eq_true (by omega)
          have hk9 : k ≤ 1000000 := by have := HN9.out; omega
          have hwk : IntKind.i64.wrap ((k : Int) + 1) = (k : Int) + 1 := by rw [IntKind.wrap_i64]; omega
          obtain ⟨gM, rfl⟩ : ∃ gM, M = some ⟨gM, 0, none⟩ := by
            rcases HF.out.own.2 with ⟨h, h0⟩ | ⟨g', cap, cur, hv, -⟩
            · omega
            · injection hv with h; exact ⟨g', h⟩
          obtain ⟨a, ha⟩ : ∃ a, a = mk c3.vw.row k := ⟨_, rfl⟩
          have kg : Blk wr g 36 c3.cs := HFIN.out.1.only HF.out.o (fun h => by
            obtain ⟨cs, kb⟩ := HFIN.out.2.1.vw.ty (by rw [← HM.out]; exact h)
            exact kb.ne_ HFIN.out.1 (by decide) rfl)
          have c7 : wr.cell? ⟨g, 7, none⟩ = some (.slice (some ⟨gM, 0, none⟩) n c3.vw.cm) := by
            have := kg.cell 7
            rw [this, HM.out, HFIN.out.2.2]
            rfl
          have ca : wr.cell? ⟨gM, k, none⟩ = some (.int .u8 (a : Int)) := by
            rw [World.ownsRow.cellAt HF.out.own k (by omega), u8s_at, bakK_at c3.vw.row k (by rw [← HFIN.out.2.2]; exact hlt), if_neg (by omega), ← ha]
            rfl
          have HST : Hid (bakK c3.vw.row (k + 1) = (bakK c3.vw.row k).set k (bak1 a)) := Lib.hid (by rw [ha]; exact bakK_step c3.vw.row (by rw [← HFIN.out.2.2]; exact hlt))
          have HSM : Hid (bak1 a = a → bakK c3.vw.row (k + 1) = bakK c3.vw.row k) := Lib.hid fun h => by
            rw [HST.out, h]
            exact list_set_at (by rw [bakK_at c3.vw.row k (by rw [← HFIN.out.2.2]; exact hlt), if_neg (by omega), ← ha])
          clear ha kg
          by_cases h3 : a = 3
          · subst h3
            have e3 : ((((3 : Nat)) : Int) == 3) = true := rfl
            have HOW := Lib.hid HF.out.own
            go_wp2_with (have _h := HOW; refine wpList_setrow rfl 5 (.tmp 59) (.const (.int .u8 1)) rfl gM k 5 base 1 n c3.vw.cm (u8s (bakK c3.vw.row k)) (.int .u8 1) rfl rfl HOW.out (by rw [u8s_length, bakK_len, ← HFIN.out.2.2]; exact hlt) (by kernel_rfl) rfl ?_; clear _h HOW; intro w9 K9 o9 s9)
            have HE : Hid (Bak w6 base (some ⟨gM, 0, none⟩) n c3.vw.cm c3.vw.row (k + 1) w9) := Lib.hid ⟨HF.out.o.trans o9 (fun x hx => .inl (by simp [rowOf, Value.ownBlock] at hx ⊢; exact hx)), by unfold Own; rw [HST.out, show bak1 3 = 1 from rfl, u8s_set]; exact K9⟩
            clear K9 o9 s9
            exact ⟨⟨k + 1, by go_num, by omega, HE.out⟩, by simp only [intOf]; omega⟩
          · have e3 : ((a : Int) == 3) = false := beq_eq_false_iff_ne.2 (by omega)
            by_cases h2 : a = 2
            · subst h2
              have e2 : ((((2 : Nat)) : Int) == 2) = true := rfl
              have HOW := Lib.hid HF.out.own
              go_wp2_with (have _h := HOW; refine wpList_setrow rfl 5 (.tmp 59) (.const (.int .u8 1)) rfl gM k 5 base 1 n c3.vw.cm (u8s (bakK c3.vw.row k)) (.int .u8 1) rfl rfl HOW.out (by rw [u8s_length, bakK_len, ← HFIN.out.2.2]; exact hlt) (by kernel_rfl) rfl ?_; clear _h HOW; intro w9 K9 o9 s9)
              have HE : Hid (Bak w6 base (some ⟨gM, 0, none⟩) n c3.vw.cm c3.vw.row (k + 1) w9) := Lib.hid ⟨HF.out.o.trans o9 (fun x hx => .inl (by simp [rowOf, Value.ownBlock] at hx ⊢; exact hx)), by unfold Own; rw [HST.out, show bak1 2 = 1 from rfl, u8s_set]; exact K9⟩
              clear K9 o9 s9
              exact ⟨⟨k + 1, by go_num, by omega, HE.out⟩, by simp only [intOf]; omega⟩
            · have e2 : ((a : Int) == 2) = false := beq_eq_false_iff_ne.2 (by omega)
              go_wp2
              exact ⟨⟨k + 1, by go_num, by omega, HF.out.o, by rw [HSM.out (by unfold bak1; rw [if_neg (by omega)])]; exact HF.out.own⟩, by simp only [intOf]; omega⟩
        · have d1 : decide ((k : Int) < (n : Int)) = false := decide_eq_false (by omega)
          obtain rfl : k = n := by omega
          go_wp2
          refine bodyPost_end (results_none rfl _ _ _) rfl ?_
          have h9 := row_head (row := c3.vw.row.map bak1) (Nat.le_trans HK.out.2.2.1 HB6.out.size) HFIN.out.1 HFIN.out.2.1 HFAR.out (by simp) (fun x hx => by obtain ⟨y, hy, rfl⟩ := List.mem_map.1 hx; exact bak1_lt (HFIN.out.2.1.vw.ok y hy)) (by rw [← HM.out]; exact HF.out.o) (by
            have h := HF.out.own
            rw [HFIN.out.2.2, bakK_all, HM.out] at h
            exact h)
          exact ⟨rfl, HB6.out.trans h9.2.2, _, h9.1, h9.2.1, HV3.out⟩
end Go.Proofs.Ytiimanoloedbeaa
