/-
  Bytes are written into an object's head. Conditions: the object lies where it is said to; the bytes read as they are said to.
-/
import Derived.Test.YtcbpdalfindmgaaZe

namespace Go.Proofs.Ytcbpdalfindmgaa
open Go.RowKit Go.BigFrame
set_option linter.unusedSimpArgs false
set_option linter.unusedVariables false
set_option maxRecDepth 100000
def writeK (a : Int) (n : Nat) : Nat := if a < 0 ∨ 256 - (n : Int) < a then 1 else 0
def writeD (d : List Nat) (a : Nat) (nb : List Nat) : List Nat := (d ++ List.replicate (a + nb.length - d.length) 0).take a ++ nb ++ (d ++ List.replicate (a + nb.length - d.length) 0).drop (a + nb.length)
theorem writeD_len (d : List Nat) (a : Nat) (nb : List Nat) : (writeD d a nb).length = max d.length (a + nb.length) := by simp [writeD]; omega
theorem writeMay {w : World} {pa pd n c : Nat} {A : Option Addr} (a : Int) (Ka : Blk w pa 3 #[.int .i64 a]) (Kd : Blk w pd 22 #[.slice A n c]) (hn : n ≤ 100000) : MayC w 73 #[.pointer (some ⟨pa, 0, none⟩), .pointer (some ⟨pd, 0, none⟩)] (writeK a n) := fun w1 hb => by
  have ca : w1.cell? ⟨pa, 0, none⟩ = some (.int .i64 a) := (Ka.of (hb.block _ Ka.lt)).cell 0
  have cd : w1.cell? ⟨pd, 0, none⟩ = some (.slice A n c) := (Kd.of (hb.block _ Kd.lt)).cell 0
  clear Ka Kd hb
  have hw : IntKind.i64.wrap (256 - (n : Int)) = 256 - (n : Int) := by rw [IntKind.wrap_i64]; omega
  by_cases h0 : a < 0
  · have d0 : decide (a < 0) = true := decide_eq_true h0
    have HK : Hid (writeK a n = 1) := Lib.hid (by unfold writeK; rw [if_pos (.inl h0)])
    clear h0
    go_enter Try.func73, Try.ntmps73
    go_wp2
    go_ret
    rw [HK.out]
    exact ⟨rfl, Below.refl _ _⟩
  · have d0 : decide (a < 0) = false := decide_eq_false h0
    by_cases h1 : 256 - (n : Int) < a
    · have d1 : decide (256 - (n : Int) < a) = true := decide_eq_true h1
      have HK : Hid (writeK a n = 1) := Lib.hid (by unfold writeK; rw [if_pos (.inr h1)])
      clear h0 h1
      go_enter Try.func73, Try.ntmps73
      go_wp2
      go_ret
      rw [HK.out]
      exact ⟨rfl, Below.refl _ _⟩
    · have d1 : decide (256 - (n : Int) < a) = false := decide_eq_false h1
      have HK : Hid (writeK a n = 0) := Lib.hid (by unfold writeK; rw [if_neg (by omega)])
      clear h0 h1
      go_enter Try.func73, Try.ntmps73
      go_wp2
      go_ret
      rw [HK.out]
      exact ⟨rfl, Below.refl _ _⟩
theorem run_copy_none (w : World) (A1 A2 : Option Addr) (m1 c1 c2 : Nat) : (Builtin.copy_ #[22, 22] 3 #[.slice A1 m1 c1, .slice A2 0 c2]).run Try.prog w = .ok (.int .i64 0) w := by
  obtain ⟨i0, hi0, hz0, hz1, hz2⟩ := info_parts byte_info
  cases A1 <;> cases A2 <;> simp [Builtin.copy_, run_underlying Try.underlying22, Builtin.lenOf, Builtin.firstCells, sizeOf, typeInfo, hi0, hz1, storeCells, loadCells, loadCellsFrom, goInt]
/-- bytes are copied into a row of the call's own -/
theorem copy_part {w : World} {base m c a n B cs : Nat} {D As : Option Addr} {R nb : List Nat} (h : Own w base (.slice D m c) m R) (hk : a + n ≤ m) (hB : Bytes w B As n nb) : ∃ A1 w' r, (Instr.slice 22 (.slice D m c) (some (.int .i64 (a : Int))) none none).run Try.prog w = .ok (.slice A1 (m - a) (c - a)) w ∧
    (Builtin.copy_ #[22, 22] 3 #[.slice A1 (m - a) (c - a), .slice As n cs]).run Try.prog w = .ok (.int .i64 r) w' ∧ Own w' base (.slice D m c) m (R.take a ++ nb ++ R.drop (a + nb.length)) ∧ Only (rowOf (.slice D 0 0)) w w' := by
  obtain ⟨-, hl, hmc, hD⟩ := own_len h
  have h1 := run_cut_bytes D m c a (by omega) w
  have hnl := hB.len
  rcases Nat.eq_zero_or_pos n with hk0 | hk0
  · subst hk0
    obtain rfl : nb = [] := List.eq_nil_of_length_eq_zero hnl
    refine ⟨_, w, 0, h1, run_copy_none w _ _ _ _ _, ?_, Only.refl _ _⟩
    have : R.take a ++ [] ++ R.drop (a + ([] : List Nat).length) = R := by simp
    rw [this]
    exact h
  · obtain ⟨b, rfl⟩ : ∃ b, D = some ⟨b, 0, none⟩ := by
      rcases hD with rfl | hb
      · rcases h.2 with ⟨_, e0⟩ | ⟨_, _, _, e, _⟩
        · omega
        · cases e
      · exact hb
    have e1 : (if c = a then some (⟨b, 0, none⟩ : Addr) else (some (⟨b, 0, none⟩ : Addr)).map (·.add (a * 1))) = some ⟨b, a, none⟩ := by
      rw [if_neg (by omega), Option.map_some, Nat.mul_one, add_zero_off]
    rw [e1] at h1
    obtain ⟨a2, rfl, -, hcell⟩ := hB.1.2 hk0
    obtain ⟨cur, hcur, hfit, hown2, hon2⟩ := own_copy (at_ := a) (nb := nb) h (by omega)
    have hcp := run_copy_row (P := Try.prog) w 22 22 3 5 b a (m - a) (c - a) a2 n cs cur 5 (u8s nb) Try.underlying22 (by kernel_rfl) hcur (by rw [u8s_length]; have : Nat.min n (m - a) = n := Nat.min_eq_left (by omega); omega) hcell (by rw [u8s_length]; exact hfit) (oneCell_u8s _)
    exact ⟨_, _, _, h1, hcp, hown2, hon2.mono (fun k hk => by simp at hk; subst hk; simp [rowOf, Value.ownBlock])⟩
set_option maxHeartbeats 8000000 in
theorem writeDoes {w : World} {pa pd n c : Nat} {A : Option Addr} (q0 : OV) (a : Nat) (nb : List Nat) (ha : a + n ≤ 256) (Ka : Blk w pa 3 #[.int .i64 (a : Int)]) (Kd : Blk w pd 22 #[.slice A n c]) (hdat : Bytes w w.heap.size A n nb) : DoesC w 74 #[.pointer (some ⟨pa, 0, none⟩), .pointer (some ⟨pd, 0, none⟩)] q0 (some (writeD q0.dt a nb)) := fun w1 g q hb hg K hN hS hv => by
  subst hv
  have hz1 := hb.size
  have Ka1 := Ka.of (hb.block _ Ka.lt)
  have Kd1 := Kd.of (hb.block _ Kd.lt)
  have hd1 : Bytes w1 w.heap.size A n nb := hdat.below hb
  have hnl := hdat.len
  have HK := Lib.hid (And.intro K (And.intro Ka1 (And.intro Kd1 (And.intro hd1 hnl))))
  have HN := Lib.hid hN
  have HS := Lib.hid hS
  have HPP : Hid (pa < w.heap.size ∧ pd < w.heap.size ∧ w.heap.size ≤ w1.heap.size ∧ g < w1.heap.size) := Lib.hid ⟨Ka.lt, Kd.lt, hz1, K.lt⟩
  have hgl := K.lt
  have hK := K
  clear hb Ka Kd hdat Ka1 Kd1 hd1 hN hS K hz1 hgl hnl
  show Calls Try.prog 74 #[.pointer (some ⟨g, 0, none⟩), .pointer (some ⟨pa, 0, none⟩), .pointer (some ⟨pd, 0, none⟩)] w1 _
  go_enter Try.func74, Try.ntmps74
  go_upto_region 1 with (have _h := hK; refine wpList_setq rfl 4 (.tmp 6) (.const (.bool true)) rfl g 0 36 q.cs (.bool true) rfl rfl hK (by simp [OA.cs]) (by kernel_rfl) rfl ?_; clear _h hK; intro wA KA hoA hsA)
  have KA' : Blk wA g 36 (OA.cs {q with th := true}) := by simpa [OA.cs] using KA
  have hNA : OA.N {q with th := true} wA w.heap.size := by
    have h1 : q.N wA w.heap.size := HN.out.typed fun k t cs hb ht => hoA.block k hb.lt (fun hm => by
      simp at hm
      subst hm
      refine hb.ne_ HK.out.1 ?_ rfl
      rcases ht with rfl | rfl | rfl <;> decide)
    exact ⟨h1.dt, h1.ok, h1.row, h1.cl, h1.q1, h1.q2, h1.dD, h1.dS⟩
  have hsz : wA.heap.size = w1.heap.size := hsA
  have hlo : ∀ k, k < w.heap.size → k ≠ g := fun k hk e => by omega
  have KaA : Blk wA pa 3 #[.int .i64 (a : Int)] := HK.out.2.1.only hoA (fun hm => by simp at hm; exact hlo pa HPP.out.1 hm)
  have KdA : Blk wA pd 22 #[.slice A n c] := HK.out.2.2.1.only hoA (fun hm => by simp at hm; exact hlo pd HPP.out.2.1 hm)
  have ca : wA.cell? ⟨pa, 0, none⟩ = some (.int .i64 (a : Int)) := KaA.cell 0
  have cd : wA.cell? ⟨pd, 0, none⟩ = some (.slice A n c) := KdA.cell 0
  have hwr : IntKind.i64.wrap ((a : Int) + (n : Int)) = ((a + n : Nat) : Int) := by rw [IntKind.wrap_i64]; omega
  have HGR := Lib.hid (grow_any (n := a + n) {q with th := true} KA' hNA HS.out.dt (by rw [hsz]; exact HPP.out.2.2.1) (by omega))
  have HA := Lib.hid (And.intro KA' (And.intro hNA (And.intro KaA (And.intro KdA (And.intro hoA hsz)))))
  clear KA KA' hNA KaA KdA hoA hsA hsz hlo
  obtain ⟨an, han⟩ : ∃ an, an = a + n := ⟨_, rfl⟩
  have HAN := Lib.hid han
  rw [← han] at HGR hwr
  clear han
  go_wp2_with fail
  refine HGR.out.mono ?_
  rintro e w2 ⟨rfl, D2, c2, K2, ho2, hon2, hnew2⟩
  obtain ⟨L2, hL2⟩ : ∃ L2, L2 = (q.dt ++ List.replicate (an - q.dt.length) 0).length := ⟨_, rfl⟩
  have hL2' : L2 = max q.dt.length (a + n) := by rw [hL2, HAN.out]; simp; omega
  have K2' : Blk w2 g 36 #[.bool true, .slice D2 L2 c2, .int .i64 q.sq, .slice q.C q.cl.length q.cc] := by rw [hL2]; exact K2
  have ho2' : Own w2 w.heap.size (.slice D2 L2 c2) L2 (q.dt ++ List.replicate (an - q.dt.length) 0) := by rw [hL2]; exact ho2
  have hF2 : ∀ k ∈ g :: rowOf (.slice q.D 0 0), w.heap.size ≤ k := fun k hk => by
    rcases List.mem_cons.1 hk with e | hk
    · omega
    · exact (OA.P.dU HN.out k hk).1
  have Ka2 : Blk w2 pa 3 #[.int .i64 (a : Int)] := HA.out.2.2.1.only hon2 (fun hm => by have := hF2 _ hm; have := HPP.out.1; omega)
  have Kd2 : Blk w2 pd 22 #[.slice A n c] := HA.out.2.2.2.1.only hon2 (fun hm => by have := hF2 _ hm; have := HPP.out.2.1; omega)
  have hon12 : Only (g :: rowOf (.slice q.D 0 0)) w1 w2 := (HA.out.2.2.2.2.1.mono (fun k hk => by simp at hk; simp [hk])).trans hon2 (fun k hk => .inl hk)
  have hd2 : Bytes w2.drew w.heap.size A n nb := Bytes.keep HK.out.2.2.2.1 (fun p hp => World.cell?_of_block (hon12.block p.block (by have := HPP.out.2.2.1; omega) (fun hm => by have := hF2 _ hm; omega)))
  obtain ⟨A1, w3, r, hsl, hcp, ho3, hon3⟩ := copy_part (w := w2.drew) (a := a) (cs := c) (ho2'.drew) (by omega) hd2
  have hfin : DoesTo w1 g w.heap.size q (some (writeD q.v.dt a nb)) (.returned (.tuple #[])) w3 := by
    have hn := HK.out.2.2.2.2
    have e1 : (q.dt ++ List.replicate (an - q.dt.length) 0).take a ++ nb ++ (q.dt ++ List.replicate (an - q.dt.length) 0).drop (a + nb.length) = writeD q.dt a nb := by unfold writeD; rw [HAN.out, hn]
    rw [e1] at ho3
    have hl3 : (writeD q.dt a nb).length = L2 := by rw [writeD_len, hL2', hn]
    have hon3' : Only (rowOf (.slice D2 0 0)) w2 w3 := ⟨hon3.os, hon3.tape, hon3.output, hon3.size, hon3.block⟩
    have hsz := HA.out.2.2.2.2.2
    have hon13 : Only (g :: rowOf (.slice q.D 0 0)) w1 w3 := hon12.trans hon3' (fun k hk => by
      rcases hnew2 k hk with h | h
      · exact .inl (by simp only [List.mem_cons]; exact .inr h)
      · exact .inr (by omega))
    refine DoesTo.of (D' := D2) (bs := writeD q.dt a nb) (c' := c2) (th := true) HN.out HS.out HK.out.1 hon13 (by rw [hl3]; exact ho3) (fun b hb => ?_) (fun k hk => by
      rcases hnew2 k hk with h | h
      · exact .inl h
      · exact .inr (by omega)) (by rw [hl3, hL2']; have := HS.out.dt; omega) ?_ rfl (fun h => (by cases h))
    · have hR : ∀ b ∈ q.dt ++ List.replicate (a + nb.length - q.dt.length) 0, b < 256 := fun b hb => by
        rcases List.mem_append.1 hb with hb | hb
        · exact HN.out.ok b hb
        · have := (List.mem_replicate.1 hb).2; omega
      unfold writeD at hb
      rcases List.mem_append.1 hb with hb | hb
      · rcases List.mem_append.1 hb with hb | hb
        · exact hR b (List.mem_of_mem_take hb)
        · exact HK.out.2.2.2.1.2 b hb
      · exact hR b (List.mem_of_mem_drop hb)
    · rw [hl3]
      exact K2'.of (hon3'.block g K2'.lt (fun hm => by
        have hty : ∃ cs, Blk w2 g 5 cs := own_ty ho2' (by rw [row_slice _ L2 c2 0 0]; exact hm)
        obtain ⟨cs, hbb⟩ := hty
        exact hbb.ne_ K2' (by decide) rfl))
  have HFIN := Lib.hid hfin
  have HS3 : Hid (Blk w3 g 36 #[.bool true, .slice D2 L2 c2, .int .i64 q.sq, .slice q.C q.cl.length q.cc] ∧ Blk w3 pa 3 #[.int .i64 (a : Int)] ∧ Blk w3 pd 22 #[.slice A n c]) := Lib.hid (by
    have hon3' : Only (rowOf (.slice D2 0 0)) w2 w3 := ⟨hon3.os, hon3.tape, hon3.output, hon3.size, hon3.block⟩
    have hty : ∀ k ∈ rowOf (.slice D2 0 0), ∃ cs, Blk w2 k 5 cs := fun k hm => own_ty ho2' (by rw [row_slice _ L2 c2 0 0]; exact hm)
    refine ⟨K2'.only hon3' (fun hm => ?_), Ka2.only hon3' (fun hm => ?_), Kd2.only hon3' (fun hm => ?_)⟩
    · obtain ⟨cs, hbb⟩ := hty _ hm; exact hbb.ne_ K2' (by decide) rfl
    · obtain ⟨cs, hbb⟩ := hty _ hm; exact hbb.ne_ Ka2 (by decide) rfl
    · obtain ⟨cs, hbb⟩ := hty _ hm; exact hbb.ne_ Kd2 (by decide) rfl)
  have hC : ∀ w' : World, (Blk w' g 36 #[.bool true, .slice D2 L2 c2, .int .i64 q.sq, .slice q.C q.cl.length q.cc] ∧ Blk w' pa 3 #[.int .i64 (a : Int)] ∧ Blk w' pd 22 #[.slice A n c]) → w'.cell? ⟨g, 1, none⟩ = some (.slice D2 L2 c2) ∧ w'.cell? ⟨pa, 0, none⟩ = some (.int .i64 (a : Int)) ∧ w'.cell? ⟨pd, 0, none⟩ = some (.slice A n c) := fun w' h => ⟨h.1.cell 1, h.2.1.cell 0, h.2.2.cell 0⟩
  have HC := Lib.hid hC
  have hS7 : Blk w2.drew g 36 #[.bool true, .slice D2 L2 c2, .int .i64 q.sq, .slice q.C q.cl.length q.cc] ∧ Blk w2.drew pa 3 #[.int .i64 (a : Int)] ∧ Blk w2.drew pd 22 #[.slice A n c] := ⟨K2'.drew, Ka2.drew, Kd2.drew⟩
  have HL := Lib.hid hL2
  clear hfin hC K2 K2' ho2 ho2' Ka2 Kd2 hon12 hd2 ho3 hon3 hF2 hon2 hnew2 hL2' HGR hwr ca cd hL2
  go_upto_region 2 with (fail)
  refine any_beginL (fun w' => Blk w' g 36 #[.bool true, .slice D2 L2 c2, .int .i64 q.sq, .slice q.C q.cl.length q.cc] ∧ Blk w' pa 3 #[.int .i64 (a : Int)] ∧ Blk w' pd 22 #[.slice A n c]) 99 (by kernel_rfl) ?_
  refine S_take (i := 0) (v := .pointer (some ⟨g, 0, none⟩)) rfl (by kernel_rfl) (by kernel_rfl) (by kernel_rfl) (by kernel_rfl) (fun _ _ _ h => h) (Or.inl ⟨by rfl, fun w hw => by kernel_rfl⟩) hS7 ?_
  simp only [Act.put, List.getElem_toArray, List.getElem_cons_succ, List.getElem_cons_zero, List.setIfInBounds_toArray, List.set_cons_zero, List.set_cons_succ]
  refine S_take (i := 1) (v := .pointer (some ⟨g, 0, none⟩)) rfl (by kernel_rfl) (by kernel_rfl) (by kernel_rfl) (by kernel_rfl) (fun _ _ _ h => h) (Or.inl ⟨by rfl, fun w hw => by kernel_rfl⟩) hS7 ?_
  simp only [Act.put, List.getElem_toArray, List.getElem_cons_succ, List.getElem_cons_zero, List.setIfInBounds_toArray, List.set_cons_zero, List.set_cons_succ]
  refine S_take (i := 2) (v := .pointer (some ⟨g, 1, none⟩)) rfl (by kernel_rfl) (by kernel_rfl) (by kernel_rfl) (by kernel_rfl) (fun _ _ _ h => h) (Or.inl ⟨by rfl, fun w hw => by go_simp⟩) hS7 ?_
  simp only [Act.put, List.getElem_toArray, List.getElem_cons_succ, List.getElem_cons_zero, List.setIfInBounds_toArray, List.set_cons_zero, List.set_cons_succ]
  refine S_take (i := 3) (v := .slice D2 L2 c2) rfl (by kernel_rfl) (by kernel_rfl) (by kernel_rfl) (by kernel_rfl) (fun _ _ _ h => h) (Or.inl ⟨by rfl, fun w hw => by have q1 := (HC.out w hw).1; go_simp⟩) hS7 ?_
  simp only [Act.put, List.getElem_toArray, List.getElem_cons_succ, List.getElem_cons_zero, List.setIfInBounds_toArray, List.set_cons_zero, List.set_cons_succ]
  refine S_take (i := 4) (v := .int .i64 (a : Int)) rfl (by kernel_rfl) (by kernel_rfl) (by kernel_rfl) (by kernel_rfl) (fun _ _ _ h => h) (Or.inl ⟨by rfl, fun w hw => by have q1 := (HC.out w hw).2.1; go_simp⟩) hS7 ?_
  simp only [Act.put, List.getElem_toArray, List.getElem_cons_succ, List.getElem_cons_zero, List.setIfInBounds_toArray, List.set_cons_zero, List.set_cons_succ]
  refine S_take (i := 6) (v := .slice A n c) rfl (by kernel_rfl) (by kernel_rfl) (by kernel_rfl) (by kernel_rfl) (fun _ _ _ h => h) (Or.inl ⟨by rfl, fun w hw => by have q1 := (HC.out w hw).2.2; go_simp⟩) hS7 ?_
  simp only [Act.put, List.getElem_toArray, List.getElem_cons_succ, List.getElem_cons_zero, List.setIfInBounds_toArray, List.set_cons_zero, List.set_cons_succ]
  refine L_one (j := 5) (by kernel_rfl) rfl (by rfl) ?_
  simp only [Act.put, List.getElem_toArray, List.getElem_cons_succ, List.getElem_cons_zero, List.setIfInBounds_toArray, List.set_cons_zero, List.set_cons_succ]
  refine wp_ran (v := .slice A1 (L2 - a) (c2 - a)) (w' := w2.drew) (by go_simp) ⟨hS7, ?_⟩
  simp only [Act.put, List.getElem_toArray, List.getElem_cons_succ, List.getElem_cons_zero, List.setIfInBounds_toArray, List.set_cons_zero, List.set_cons_succ]
  refine L_one (j := 7) (by kernel_rfl) rfl (by rfl) ?_
  simp only [Act.put, List.getElem_toArray, List.getElem_cons_succ, List.getElem_cons_zero, List.setIfInBounds_toArray, List.set_cons_zero, List.set_cons_succ]
  refine wp_ran (v := .int .i64 r) (w' := w3) (by go_simp) ⟨HS3.out, ?_⟩
  simp only [Act.put, List.getElem_toArray, List.getElem_cons_succ, List.getElem_cons_zero, List.setIfInBounds_toArray, List.set_cons_zero, List.set_cons_succ]
  refine L_done (by kernel_rfl) ?_
  refine NoPanic.normal ?_
  clear hsl hcp hS7 HC
  go_wp2
  refine bodyPost_end (results_none rfl _ _ _) rfl ?_
  exact HFIN.out
end Go.Proofs.Ytcbpdalfindmgaa

/-
  The changes of an object: Write, Zero, Cut, Drop, Back. Conditions: the object, the context and the bytes read as they are said to.
-/
namespace Go.Proofs.Ytcbpdalfindmgaa
open Go.RowKit Go.BigFrame
set_option linter.unusedSimpArgs false
set_option linter.unusedVariables false
set_option maxRecDepth 100000
theorem alloc2 (w : World) (a b : Obj) : ((w.alloc a).alloc b).heap.size = w.heap.size + 1 + 1 := by simp
theorem see_self {o : OV} {c : CxV} (hg : Good o) (hc : CxG c) (hq : o.sq ≤ c.sq) (hn : (seeO o c).cl.length ≤ 16) : Good (seeO o c) := by
  have h1 := see_good hg hc hq hn (if o.th = true then some o.dt else none) (fun d hd => by
    split at hd
    · injection hd with hd; subst hd; exact hg.dt
    · cases hd)
  have e : withHead (seeO o c) (if o.th = true then some o.dt else none) = seeO o c := by
    cases ht : o.th with
    | true => simp [withHead, seeO, ht]
    | false =>
      have := hg.th ht
      simp [withHead, seeO, ht, this]
  rw [e] at h1
  exact h1
set_option maxHeartbeats 8000000 in
theorem snDrop {w : World} (o : OA) (c : XA)  (ho : o.R w) (hoS : o.Sm) (hc : c.R w) : Calls Try.prog 35 #[.agg o.cs, .agg c.cells] w (ChTo w (ChR o.v c.v (0) (none))) := by
  obtain ⟨w0, hw0⟩ : ∃ w0, w0 = (((w).alloc (.cells o.cs 36)).alloc (.cells c.cells 28)).alloc (.cells #[.bool false, .slice none 0 0, .int .i64 0, .slice none 0 0] 36) := ⟨_, rfl⟩
  have hbel : Below w.heap.size w w0 := by rw [hw0]; exact (((Below.refl _ w).alloc (Nat.le_refl _) _).alloc (by simp) _).alloc (by simp; omega) _
  have b0 : Blk w0 (w.heap.size) 36 o.cs := by
    have := ((Blk.new (w) 36 o.cs).alloc (.cells c.cells 28)).alloc (.cells #[.bool false, .slice none 0 0, .int .i64 0, .slice none 0 0] 36)
    rw [hw0]
    simpa using this
  have b1 : Blk w0 (w.heap.size + 1) 28 c.cells := by
    have := (Blk.new ((w).alloc (.cells o.cs 36)) 28 c.cells).alloc (.cells #[.bool false, .slice none 0 0, .int .i64 0, .slice none 0 0] 36)
    rw [hw0]
    simpa using this
  have b2 : Blk w0 (w.heap.size + 1 + 1) 36 #[.bool false, .slice none 0 0, .int .i64 0, .slice none 0 0] := by
    have := Blk.new (((w).alloc (.cells o.cs 36)).alloc (.cells c.cells 28)) 36 #[.bool false, .slice none 0 0, .int .i64 0, .slice none 0 0]
    rw [hw0]
    simpa using this
  have hz0 : w0.heap.size = w.heap.size + 3 := by rw [hw0]; simp
  have hres : w.heap.size + 1 + 1 < w0.heap.size := by omega
  have HCH := Lib.hid (change_any (w := w0) o c 66 67 #[] #[] (enters_of Try.func66 (by kernel_rfl) rfl) (enters_of Try.func67 (by kernel_rfl) rfl) (0) (none) (ho.since hbel) hoS (hc.since hbel) (fun hg => dropMay w0) (fun hg hcg hle hk hl => dropDoes w0 _))
  have HB := Lib.hid (And.intro hbel (And.intro b2 hres))
  have hW := hw0
  unfold OA.cs XA.cells at hW
  have HW := Lib.hid hW
  have hcs : o.cs = #[.bool o.th, .slice o.D o.dt.length o.cd, .int .i64 o.sq, .slice o.C o.cl.length o.cc] := rfl
  have hxs : c.cells = #[.int .i64 c.sq, .slice c.S c.sn.length c.cs] := rfl
  rw [hcs, hxs] at HCH
  rw [hcs] at b0
  rw [hxs] at b1
  rw [hcs, hxs]
  clear hcs hxs hw0 hW hbel hres hz0 ho hoS hc b2
  go_enter Try.func35, Try.ntmps35
  go_upto_region 1 with (fail)
  rw [← HW.out]
  go_wp2_with (first
    | (have _h := b0; refine wpList_loadq rfl 36 (.tmp 2) rfl (w.heap.size) [.bool o.th, .slice o.D o.dt.length o.cd, .int .i64 o.sq, .slice o.C o.cl.length o.cc] _ rfl b0 Try.underlying36 rfl (by kernel_rfl) ?_; clear _h b0)
    | (have _h := b1; refine wpList_loadq rfl 28 (.tmp 3) rfl (w.heap.size + 1) [.int .i64 c.sq, .slice c.S c.sn.length c.cs] _ rfl b1 Try.underlying28 rfl (by kernel_rfl) ?_; clear _h b1))
  refine HCH.out.mono ?_
  rintro e w1 ⟨q, k, rfl, hr, hN, hS, hb⟩
  have K1 := HB.out.2.1.of (hb.block _ HB.out.2.2)
  have HR := Lib.hid (And.intro hr (And.intro hN (And.intro hS hb)))
  have hqs : q.cs = #[.bool q.th, .slice q.D q.dt.length q.cd, .int .i64 q.sq, .slice q.C q.cl.length q.cc] := rfl
  rw [hqs]
  obtain ⟨ek, hek⟩ : ∃ ek, ek = errV k := ⟨_, rfl⟩
  have HEK := Lib.hid hek
  rw [← hek]
  clear hqs hr hN hS hb HCH hek
  go_wp2_with (have _h := K1; refine wpList_storeq rfl 36 (.tmp 4) (.tmp 11) rfl (w.heap.size + 1 + 1) #[.bool false, .slice none 0 0, .int .i64 0, .slice none 0 0] [.bool q.th, .slice q.D q.dt.length q.cd, .int .i64 q.sq, .slice q.C q.cl.length q.cc] rfl rfl K1 rfl (by kernel_rfl) (OA.cs_one q) ?_; clear _h; intro w9 K9 ho9 hs9)
  refine bodyPost_ret (res_cell_tmp rfl _ _ (w.heap.size + 1 + 1) [.bool q.th, .slice q.D q.dt.length q.cd, .int .i64 q.sq, .slice q.C q.cl.length q.cc] _ _ rfl rfl K9 Try.underlying36 rfl (by kernel_rfl)) rfl ?_
  refine ⟨q, k, by rw [HEK.out]; rfl, HR.out.1, OA.P.weaken (OA.P.typed HR.out.2.1 fun k t cs hb ht => ho9.block k hb.lt (fun hm => ?_)) HB.out.1.size, HR.out.2.2.1, ?_⟩
  · simp at hm
    subst hm
    refine hb.ne_ K1 ?_ rfl
    rcases ht with rfl | rfl | rfl <;> decide
  · have h1 : Below w.heap.size w w1 := HB.out.1.trans (HR.out.2.2.2.mono HB.out.1.size)
    exact h1.trans (ho9.below (B := w.heap.size) (fun k hk => by simp at hk; omega) h1.size)
set_option maxHeartbeats 8000000 in
theorem snCut {w : World} (o : OA) (c : XA) (n : Int) (i1 : -9223372036854775808 ≤ n) (i2 : n ≤ 9223372036854775807) (ho : o.R w) (hoS : o.Sm) (hc : c.R w) : Calls Try.prog 39 #[.agg o.cs, .agg c.cells, .int .i64 n] w (ChTo w (ChR o.v c.v (cutK o.v n) (some (o.dt.take n.toNat)))) := by
  obtain ⟨w0, hw0⟩ : ∃ w0, w0 = ((((w).alloc (.cells o.cs 36)).alloc (.cells c.cells 28)).alloc (.cells #[.int .i64 n] 3)).alloc (.cells #[.bool false, .slice none 0 0, .int .i64 0, .slice none 0 0] 36) := ⟨_, rfl⟩
  have hbel : Below w.heap.size w w0 := by rw [hw0]; exact ((((Below.refl _ w).alloc (Nat.le_refl _) _).alloc (by simp) _).alloc (by simp; omega) _).alloc (by simp; omega) _
  have b0 : Blk w0 (w.heap.size) 36 o.cs := by
    have := (((Blk.new (w) 36 o.cs).alloc (.cells c.cells 28)).alloc (.cells #[.int .i64 n] 3)).alloc (.cells #[.bool false, .slice none 0 0, .int .i64 0, .slice none 0 0] 36)
    rw [hw0]
    simpa using this
  have b1 : Blk w0 (w.heap.size + 1) 28 c.cells := by
    have := ((Blk.new ((w).alloc (.cells o.cs 36)) 28 c.cells).alloc (.cells #[.int .i64 n] 3)).alloc (.cells #[.bool false, .slice none 0 0, .int .i64 0, .slice none 0 0] 36)
    rw [hw0]
    simpa using this
  have b2 : Blk w0 (w.heap.size + 1 + 1) 3 #[.int .i64 n] := by
    have := (Blk.new (((w).alloc (.cells o.cs 36)).alloc (.cells c.cells 28)) 3 #[.int .i64 n]).alloc (.cells #[.bool false, .slice none 0 0, .int .i64 0, .slice none 0 0] 36)
    rw [hw0]
    simpa using this
  have b3 : Blk w0 (w.heap.size + 1 + 1 + 1) 36 #[.bool false, .slice none 0 0, .int .i64 0, .slice none 0 0] := by
    have := Blk.new ((((w).alloc (.cells o.cs 36)).alloc (.cells c.cells 28)).alloc (.cells #[.int .i64 n] 3)) 36 #[.bool false, .slice none 0 0, .int .i64 0, .slice none 0 0]
    rw [hw0]
    simpa using this
  have hz0 : w0.heap.size = w.heap.size + 4 := by rw [hw0]; simp
  have hres : w.heap.size + 1 + 1 + 1 < w0.heap.size := by omega
  have HCH := Lib.hid (change_any (w := w0) o c 79 80 #[.pointer (some ⟨w.heap.size, 0, none⟩), .pointer (some ⟨w.heap.size + 1 + 1, 0, none⟩)] #[.pointer (some ⟨w.heap.size + 1 + 1, 0, none⟩)] (enters_of Try.func79 (by kernel_rfl) rfl) (enters_of Try.func80 (by kernel_rfl) rfl) (cutK o.v n) (some (o.dt.take n.toNat)) (ho.since hbel) hoS (hc.since hbel) (fun hg => cutMay o n b0 b2) (fun hg hcg hle hk hl => (by
      unfold cutK at hk
      split at hk
      · cases hk
      split at hk
      · cases hk
      rename_i h1 h2
      have h3 : 0 ≤ n ∧ n ≤ 256 := Decidable.not_not.1 h1
      obtain ⟨m, rfl⟩ : ∃ m : Nat, n = m := ⟨n.toNat, by omega⟩
      exact cutDoes (seeO o.v c.v) m (by omega) (by cases h : o.th with | true => exact h | false => exact absurd h h2) b2)))
  have HB := Lib.hid (And.intro hbel (And.intro b3 hres))
  have hW := hw0
  unfold OA.cs XA.cells at hW
  have HW := Lib.hid hW
  have hcs : o.cs = #[.bool o.th, .slice o.D o.dt.length o.cd, .int .i64 o.sq, .slice o.C o.cl.length o.cc] := rfl
  have hxs : c.cells = #[.int .i64 c.sq, .slice c.S c.sn.length c.cs] := rfl
  rw [hcs, hxs] at HCH
  rw [hcs] at b0
  rw [hxs] at b1
  rw [hcs, hxs]
  clear hcs hxs hw0 hW hbel hres hz0 ho hoS hc b2 b3
  go_enter Try.func39, Try.ntmps39
  go_upto_region 1 with (fail)
  rw [← HW.out]
  go_wp2_with (first
    | (have _h := b0; refine wpList_loadq rfl 36 (.tmp 3) rfl (w.heap.size) [.bool o.th, .slice o.D o.dt.length o.cd, .int .i64 o.sq, .slice o.C o.cl.length o.cc] _ rfl b0 Try.underlying36 rfl (by kernel_rfl) ?_; clear _h b0)
    | (have _h := b1; refine wpList_loadq rfl 28 (.tmp 4) rfl (w.heap.size + 1) [.int .i64 c.sq, .slice c.S c.sn.length c.cs] _ rfl b1 Try.underlying28 rfl (by kernel_rfl) ?_; clear _h b1))
  refine HCH.out.mono ?_
  rintro e w1 ⟨q, k, rfl, hr, hN, hS, hb⟩
  have K1 := HB.out.2.1.of (hb.block _ HB.out.2.2)
  have HR := Lib.hid (And.intro hr (And.intro hN (And.intro hS hb)))
  have hqs : q.cs = #[.bool q.th, .slice q.D q.dt.length q.cd, .int .i64 q.sq, .slice q.C q.cl.length q.cc] := rfl
  rw [hqs]
  obtain ⟨ek, hek⟩ : ∃ ek, ek = errV k := ⟨_, rfl⟩
  have HEK := Lib.hid hek
  rw [← hek]
  clear hqs hr hN hS hb HCH hek
  go_wp2_with (have _h := K1; refine wpList_storeq rfl 36 (.tmp 6) (.tmp 15) rfl (w.heap.size + 1 + 1 + 1) #[.bool false, .slice none 0 0, .int .i64 0, .slice none 0 0] [.bool q.th, .slice q.D q.dt.length q.cd, .int .i64 q.sq, .slice q.C q.cl.length q.cc] rfl rfl K1 rfl (by kernel_rfl) (OA.cs_one q) ?_; clear _h; intro w9 K9 ho9 hs9)
  refine bodyPost_ret (res_cell_tmp rfl _ _ (w.heap.size + 1 + 1 + 1) [.bool q.th, .slice q.D q.dt.length q.cd, .int .i64 q.sq, .slice q.C q.cl.length q.cc] _ _ rfl rfl K9 Try.underlying36 rfl (by kernel_rfl)) rfl ?_
  refine ⟨q, k, by rw [HEK.out]; rfl, HR.out.1, OA.P.weaken (OA.P.typed HR.out.2.1 fun k t cs hb ht => ho9.block k hb.lt (fun hm => ?_)) HB.out.1.size, HR.out.2.2.1, ?_⟩
  · simp at hm
    subst hm
    refine hb.ne_ K1 ?_ rfl
    rcases ht with rfl | rfl | rfl <;> decide
  · have h1 : Below w.heap.size w w1 := HB.out.1.trans (HR.out.2.2.2.mono HB.out.1.size)
    exact h1.trans (ho9.below (B := w.heap.size) (fun k hk => by simp at hk; omega) h1.size)
set_option maxHeartbeats 8000000 in
theorem snZero {w : World} (o : OA) (c : XA) (a n : Int) (i1 : -9223372036854775808 ≤ a) (i2 : a ≤ 9223372036854775807) (i3 : -9223372036854775808 ≤ n) (i4 : n ≤ 9223372036854775807) (ho : o.R w) (hoS : o.Sm) (hc : c.R w) : Calls Try.prog 38 #[.agg o.cs, .agg c.cells, .int .i64 a, .int .i64 n] w (ChTo w (ChR o.v c.v (zeroK o.v a n) (some (zeroD o.dt a.toNat n.toNat)))) := by
  obtain ⟨w0, hw0⟩ : ∃ w0, w0 = (((((w).alloc (.cells o.cs 36)).alloc (.cells c.cells 28)).alloc (.cells #[.int .i64 a] 3)).alloc (.cells #[.int .i64 n] 3)).alloc (.cells #[.bool false, .slice none 0 0, .int .i64 0, .slice none 0 0] 36) := ⟨_, rfl⟩
  have hbel : Below w.heap.size w w0 := by rw [hw0]; exact (((((Below.refl _ w).alloc (Nat.le_refl _) _).alloc (by simp) _).alloc (by simp; omega) _).alloc (by simp; omega) _).alloc (by simp; omega) _
  have b0 : Blk w0 (w.heap.size) 36 o.cs := by
    have := ((((Blk.new (w) 36 o.cs).alloc (.cells c.cells 28)).alloc (.cells #[.int .i64 a] 3)).alloc (.cells #[.int .i64 n] 3)).alloc (.cells #[.bool false, .slice none 0 0, .int .i64 0, .slice none 0 0] 36)
    rw [hw0]
    simpa using this
  have b1 : Blk w0 (w.heap.size + 1) 28 c.cells := by
    have := (((Blk.new ((w).alloc (.cells o.cs 36)) 28 c.cells).alloc (.cells #[.int .i64 a] 3)).alloc (.cells #[.int .i64 n] 3)).alloc (.cells #[.bool false, .slice none 0 0, .int .i64 0, .slice none 0 0] 36)
    rw [hw0]
    simpa using this
  have b2 : Blk w0 (w.heap.size + 1 + 1) 3 #[.int .i64 a] := by
    have := ((Blk.new (((w).alloc (.cells o.cs 36)).alloc (.cells c.cells 28)) 3 #[.int .i64 a]).alloc (.cells #[.int .i64 n] 3)).alloc (.cells #[.bool false, .slice none 0 0, .int .i64 0, .slice none 0 0] 36)
    rw [hw0]
    simpa using this
  have b3 : Blk w0 (w.heap.size + 1 + 1 + 1) 3 #[.int .i64 n] := by
    have := (Blk.new ((((w).alloc (.cells o.cs 36)).alloc (.cells c.cells 28)).alloc (.cells #[.int .i64 a] 3)) 3 #[.int .i64 n]).alloc (.cells #[.bool false, .slice none 0 0, .int .i64 0, .slice none 0 0] 36)
    rw [hw0]
    simpa using this
  have b4 : Blk w0 (w.heap.size + 1 + 1 + 1 + 1) 36 #[.bool false, .slice none 0 0, .int .i64 0, .slice none 0 0] := by
    have := Blk.new (((((w).alloc (.cells o.cs 36)).alloc (.cells c.cells 28)).alloc (.cells #[.int .i64 a] 3)).alloc (.cells #[.int .i64 n] 3)) 36 #[.bool false, .slice none 0 0, .int .i64 0, .slice none 0 0]
    rw [hw0]
    simpa using this
  have hz0 : w0.heap.size = w.heap.size + 5 := by rw [hw0]; simp
  have hres : w.heap.size + 1 + 1 + 1 + 1 < w0.heap.size := by omega
  have HCH := Lib.hid (change_any (w := w0) o c 76 78 #[.pointer (some ⟨w.heap.size, 0, none⟩), .pointer (some ⟨w.heap.size + 1 + 1, 0, none⟩), .pointer (some ⟨w.heap.size + 1 + 1 + 1, 0, none⟩)] #[.pointer (some ⟨w.heap.size + 1 + 1, 0, none⟩), .pointer (some ⟨w.heap.size + 1 + 1 + 1, 0, none⟩)] (enters_of Try.func76 (by kernel_rfl) rfl) (enters_of Try.func78 (by kernel_rfl) rfl) (zeroK o.v a n) (some (zeroD o.dt a.toNat n.toNat)) (ho.since hbel) hoS (hc.since hbel) (fun hg => zeroMay o a n b0 b2 b3) (fun hg hcg hle hk hl => (by
      unfold zeroK at hk
      split at hk
      · cases hk
      split at hk
      · cases hk
      rename_i h1 h2
      have h3 : 0 ≤ a ∧ 0 ≤ n := Decidable.not_not.1 h1
      obtain ⟨m, rfl⟩ : ∃ m : Nat, n = m := ⟨n.toNat, by omega⟩
      obtain ⟨p, rfl⟩ : ∃ p : Nat, a = p := ⟨a.toNat, by omega⟩
      exact zeroDoes (seeO o.v c.v) p m (by cases h : o.th with | true => exact h | false => exact absurd h h2) b2 b3)))
  have HB := Lib.hid (And.intro hbel (And.intro b4 hres))
  have hW := hw0
  unfold OA.cs XA.cells at hW
  have HW := Lib.hid hW
  have hcs : o.cs = #[.bool o.th, .slice o.D o.dt.length o.cd, .int .i64 o.sq, .slice o.C o.cl.length o.cc] := rfl
  have hxs : c.cells = #[.int .i64 c.sq, .slice c.S c.sn.length c.cs] := rfl
  rw [hcs, hxs] at HCH
  rw [hcs] at b0
  rw [hxs] at b1
  rw [hcs, hxs]
  clear hcs hxs hw0 hW hbel hres hz0 ho hoS hc b2 b3 b4
  go_enter Try.func38, Try.ntmps38
  go_upto_region 1 with (fail)
  rw [← HW.out]
  go_wp2_with (first
    | (have _h := b0; refine wpList_loadq rfl 36 (.tmp 4) rfl (w.heap.size) [.bool o.th, .slice o.D o.dt.length o.cd, .int .i64 o.sq, .slice o.C o.cl.length o.cc] _ rfl b0 Try.underlying36 rfl (by kernel_rfl) ?_; clear _h b0)
    | (have _h := b1; refine wpList_loadq rfl 28 (.tmp 5) rfl (w.heap.size + 1) [.int .i64 c.sq, .slice c.S c.sn.length c.cs] _ rfl b1 Try.underlying28 rfl (by kernel_rfl) ?_; clear _h b1))
  refine HCH.out.mono ?_
  rintro e w1 ⟨q, k, rfl, hr, hN, hS, hb⟩
  have K1 := HB.out.2.1.of (hb.block _ HB.out.2.2)
  have HR := Lib.hid (And.intro hr (And.intro hN (And.intro hS hb)))
  have hqs : q.cs = #[.bool q.th, .slice q.D q.dt.length q.cd, .int .i64 q.sq, .slice q.C q.cl.length q.cc] := rfl
  rw [hqs]
  obtain ⟨ek, hek⟩ : ∃ ek, ek = errV k := ⟨_, rfl⟩
  have HEK := Lib.hid hek
  rw [← hek]
  clear hqs hr hN hS hb HCH hek
  go_wp2_with (have _h := K1; refine wpList_storeq rfl 36 (.tmp 8) (.tmp 17) rfl (w.heap.size + 1 + 1 + 1 + 1) #[.bool false, .slice none 0 0, .int .i64 0, .slice none 0 0] [.bool q.th, .slice q.D q.dt.length q.cd, .int .i64 q.sq, .slice q.C q.cl.length q.cc] rfl rfl K1 rfl (by kernel_rfl) (OA.cs_one q) ?_; clear _h; intro w9 K9 ho9 hs9)
  refine bodyPost_ret (res_cell_tmp rfl _ _ (w.heap.size + 1 + 1 + 1 + 1) [.bool q.th, .slice q.D q.dt.length q.cd, .int .i64 q.sq, .slice q.C q.cl.length q.cc] _ _ rfl rfl K9 Try.underlying36 rfl (by kernel_rfl)) rfl ?_
  refine ⟨q, k, by rw [HEK.out]; rfl, HR.out.1, OA.P.weaken (OA.P.typed HR.out.2.1 fun k t cs hb ht => ho9.block k hb.lt (fun hm => ?_)) HB.out.1.size, HR.out.2.2.1, ?_⟩
  · simp at hm
    subst hm
    refine hb.ne_ K1 ?_ rfl
    rcases ht with rfl | rfl | rfl <;> decide
  · have h1 : Below w.heap.size w w1 := HB.out.1.trans (HR.out.2.2.2.mono HB.out.1.size)
    exact h1.trans (ho9.below (B := w.heap.size) (fun k hk => by simp at hk; omega) h1.size)
set_option maxHeartbeats 8000000 in
theorem snWrite {w : World} (o : OA) (c : XA) (a : Int) (A : Option Addr) (n c2 : Nat) (nb : List Nat) (i1 : -9223372036854775808 ≤ a) (i2 : a ≤ 9223372036854775807) (ho : o.R w) (hoS : o.Sm) (hc : c.R w) (hd : Bytes w w.heap.size A n nb) (hn : n ≤ 100000) : Calls Try.prog 37 #[.agg o.cs, .agg c.cells, .int .i64 a, .slice A n c2] w (ChTo w (ChR o.v c.v (writeK a n) (some (writeD o.dt a.toNat nb)))) := by
  obtain ⟨w0, hw0⟩ : ∃ w0, w0 = (((((w).alloc (.cells o.cs 36)).alloc (.cells c.cells 28)).alloc (.cells #[.int .i64 a] 3)).alloc (.cells #[.slice A n c2] 22)).alloc (.cells #[.bool false, .slice none 0 0, .int .i64 0, .slice none 0 0] 36) := ⟨_, rfl⟩
  have hbel : Below w.heap.size w w0 := by rw [hw0]; exact (((((Below.refl _ w).alloc (Nat.le_refl _) _).alloc (by simp) _).alloc (by simp; omega) _).alloc (by simp; omega) _).alloc (by simp; omega) _
  have b0 : Blk w0 (w.heap.size) 36 o.cs := by
    have := ((((Blk.new (w) 36 o.cs).alloc (.cells c.cells 28)).alloc (.cells #[.int .i64 a] 3)).alloc (.cells #[.slice A n c2] 22)).alloc (.cells #[.bool false, .slice none 0 0, .int .i64 0, .slice none 0 0] 36)
    rw [hw0]
    simpa using this
  have b1 : Blk w0 (w.heap.size + 1) 28 c.cells := by
    have := (((Blk.new ((w).alloc (.cells o.cs 36)) 28 c.cells).alloc (.cells #[.int .i64 a] 3)).alloc (.cells #[.slice A n c2] 22)).alloc (.cells #[.bool false, .slice none 0 0, .int .i64 0, .slice none 0 0] 36)
    rw [hw0]
    simpa using this
  have b2 : Blk w0 (w.heap.size + 1 + 1) 3 #[.int .i64 a] := by
    have := ((Blk.new (((w).alloc (.cells o.cs 36)).alloc (.cells c.cells 28)) 3 #[.int .i64 a]).alloc (.cells #[.slice A n c2] 22)).alloc (.cells #[.bool false, .slice none 0 0, .int .i64 0, .slice none 0 0] 36)
    rw [hw0]
    simpa using this
  have b3 : Blk w0 (w.heap.size + 1 + 1 + 1) 22 #[.slice A n c2] := by
    have := (Blk.new ((((w).alloc (.cells o.cs 36)).alloc (.cells c.cells 28)).alloc (.cells #[.int .i64 a] 3)) 22 #[.slice A n c2]).alloc (.cells #[.bool false, .slice none 0 0, .int .i64 0, .slice none 0 0] 36)
    rw [hw0]
    simpa using this
  have b4 : Blk w0 (w.heap.size + 1 + 1 + 1 + 1) 36 #[.bool false, .slice none 0 0, .int .i64 0, .slice none 0 0] := by
    have := Blk.new (((((w).alloc (.cells o.cs 36)).alloc (.cells c.cells 28)).alloc (.cells #[.int .i64 a] 3)).alloc (.cells #[.slice A n c2] 22)) 36 #[.bool false, .slice none 0 0, .int .i64 0, .slice none 0 0]
    rw [hw0]
    simpa using this
  have hz0 : w0.heap.size = w.heap.size + 5 := by rw [hw0]; simp
  have hres : w.heap.size + 1 + 1 + 1 + 1 < w0.heap.size := by omega
  have HCH := Lib.hid (change_any (w := w0) o c 73 74 #[.pointer (some ⟨w.heap.size + 1 + 1, 0, none⟩), .pointer (some ⟨w.heap.size + 1 + 1 + 1, 0, none⟩)] #[.pointer (some ⟨w.heap.size + 1 + 1, 0, none⟩), .pointer (some ⟨w.heap.size + 1 + 1 + 1, 0, none⟩)] (enters_of Try.func73 (by kernel_rfl) rfl) (enters_of Try.func74 (by kernel_rfl) rfl) (writeK a n) (some (writeD o.dt a.toNat nb)) (ho.since hbel) hoS (hc.since hbel) (fun hg => writeMay a b2 b3 hn) (fun hg hcg hle hk hl => (by
      unfold writeK at hk
      split at hk
      · cases hk
      rename_i h1
      obtain ⟨p, rfl⟩ : ∃ p : Nat, a = p := ⟨a.toNat, by omega⟩
      exact writeDoes (seeO o.v c.v) p nb (by omega) b2 b3 ((hd.since hbel).more hbel.size))))
  have HB := Lib.hid (And.intro hbel (And.intro b4 hres))
  have hW := hw0
  unfold OA.cs XA.cells at hW
  have HW := Lib.hid hW
  have hcs : o.cs = #[.bool o.th, .slice o.D o.dt.length o.cd, .int .i64 o.sq, .slice o.C o.cl.length o.cc] := rfl
  have hxs : c.cells = #[.int .i64 c.sq, .slice c.S c.sn.length c.cs] := rfl
  rw [hcs, hxs] at HCH
  rw [hcs] at b0
  rw [hxs] at b1
  rw [hcs, hxs]
  clear hcs hxs hw0 hW hbel hres hz0 ho hoS hc b2 b3 b4
  go_enter Try.func37, Try.ntmps37
  go_upto_region 1 with (fail)
  rw [← HW.out]
  go_wp2_with (first
    | (have _h := b0; refine wpList_loadq rfl 36 (.tmp 4) rfl (w.heap.size) [.bool o.th, .slice o.D o.dt.length o.cd, .int .i64 o.sq, .slice o.C o.cl.length o.cc] _ rfl b0 Try.underlying36 rfl (by kernel_rfl) ?_; clear _h b0)
    | (have _h := b1; refine wpList_loadq rfl 28 (.tmp 5) rfl (w.heap.size + 1) [.int .i64 c.sq, .slice c.S c.sn.length c.cs] _ rfl b1 Try.underlying28 rfl (by kernel_rfl) ?_; clear _h b1))
  refine HCH.out.mono ?_
  rintro e w1 ⟨q, k, rfl, hr, hN, hS, hb⟩
  have K1 := HB.out.2.1.of (hb.block _ HB.out.2.2)
  have HR := Lib.hid (And.intro hr (And.intro hN (And.intro hS hb)))
  have hqs : q.cs = #[.bool q.th, .slice q.D q.dt.length q.cd, .int .i64 q.sq, .slice q.C q.cl.length q.cc] := rfl
  rw [hqs]
  obtain ⟨ek, hek⟩ : ∃ ek, ek = errV k := ⟨_, rfl⟩
  have HEK := Lib.hid hek
  rw [← hek]
  clear hqs hr hN hS hb HCH hek
  go_wp2_with (have _h := K1; refine wpList_storeq rfl 36 (.tmp 8) (.tmp 17) rfl (w.heap.size + 1 + 1 + 1 + 1) #[.bool false, .slice none 0 0, .int .i64 0, .slice none 0 0] [.bool q.th, .slice q.D q.dt.length q.cd, .int .i64 q.sq, .slice q.C q.cl.length q.cc] rfl rfl K1 rfl (by kernel_rfl) (OA.cs_one q) ?_; clear _h; intro w9 K9 ho9 hs9)
  refine bodyPost_ret (res_cell_tmp rfl _ _ (w.heap.size + 1 + 1 + 1 + 1) [.bool q.th, .slice q.D q.dt.length q.cd, .int .i64 q.sq, .slice q.C q.cl.length q.cc] _ _ rfl rfl K9 Try.underlying36 rfl (by kernel_rfl)) rfl ?_
  refine ⟨q, k, by rw [HEK.out]; rfl, HR.out.1, OA.P.weaken (OA.P.typed HR.out.2.1 fun k t cs hb ht => ho9.block k hb.lt (fun hm => ?_)) HB.out.1.size, HR.out.2.2.1, ?_⟩
  · simp at hm
    subst hm
    refine hb.ne_ K1 ?_ rfl
    rcases ht with rfl | rfl | rfl <;> decide
  · have h1 : Below w.heap.size w w1 := HB.out.1.trans (HR.out.2.2.2.mono HB.out.1.size)
    exact h1.trans (ho9.below (B := w.heap.size) (fun k hk => by simp at hk; omega) h1.size)
set_option maxHeartbeats 8000000 in
theorem snBack {w : World} (o : OA) (c : XA) (s : Int) (i1 : -9223372036854775808 ≤ s) (i2 : s ≤ 9223372036854775807) (ho : o.R w) (hoS : o.Sm) (hc : c.R w) : Calls Try.prog 34 #[.agg o.cs, .agg c.cells, .int .i64 s] w (ChTo w (ChR o.v c.v (backK c.v s) (atO (seeO o.v c.v) s))) := by
  obtain ⟨w0, hw0⟩ : ∃ w0, w0 = ((((w).alloc (.cells o.cs 36)).alloc (.cells c.cells 28)).alloc (.cells #[.int .i64 s] 3)).alloc (.cells #[.bool false, .slice none 0 0, .int .i64 0, .slice none 0 0] 36) := ⟨_, rfl⟩
  have hbel : Below w.heap.size w w0 := by rw [hw0]; exact ((((Below.refl _ w).alloc (Nat.le_refl _) _).alloc (by simp) _).alloc (by simp; omega) _).alloc (by simp; omega) _
  have b0 : Blk w0 (w.heap.size) 36 o.cs := by
    have := (((Blk.new (w) 36 o.cs).alloc (.cells c.cells 28)).alloc (.cells #[.int .i64 s] 3)).alloc (.cells #[.bool false, .slice none 0 0, .int .i64 0, .slice none 0 0] 36)
    rw [hw0]
    simpa using this
  have b1 : Blk w0 (w.heap.size + 1) 28 c.cells := by
    have := ((Blk.new ((w).alloc (.cells o.cs 36)) 28 c.cells).alloc (.cells #[.int .i64 s] 3)).alloc (.cells #[.bool false, .slice none 0 0, .int .i64 0, .slice none 0 0] 36)
    rw [hw0]
    simpa using this
  have b2 : Blk w0 (w.heap.size + 1 + 1) 3 #[.int .i64 s] := by
    have := (Blk.new (((w).alloc (.cells o.cs 36)).alloc (.cells c.cells 28)) 3 #[.int .i64 s]).alloc (.cells #[.bool false, .slice none 0 0, .int .i64 0, .slice none 0 0] 36)
    rw [hw0]
    simpa using this
  have b3 : Blk w0 (w.heap.size + 1 + 1 + 1) 36 #[.bool false, .slice none 0 0, .int .i64 0, .slice none 0 0] := by
    have := Blk.new ((((w).alloc (.cells o.cs 36)).alloc (.cells c.cells 28)).alloc (.cells #[.int .i64 s] 3)) 36 #[.bool false, .slice none 0 0, .int .i64 0, .slice none 0 0]
    rw [hw0]
    simpa using this
  have hz0 : w0.heap.size = w.heap.size + 4 := by rw [hw0]; simp
  have hres : w.heap.size + 1 + 1 + 1 < w0.heap.size := by omega
  have HCH := Lib.hid (change_any (w := w0) o c 63 65 #[.pointer (some ⟨w.heap.size + 1, 0, none⟩), .pointer (some ⟨w.heap.size + 1 + 1, 0, none⟩)] #[.pointer (some ⟨w.heap.size + 1 + 1, 0, none⟩)] (enters_of Try.func63 (by kernel_rfl) rfl) (enters_of Try.func65 (by kernel_rfl) rfl) (backK c.v s) (atO (seeO o.v c.v) s) (ho.since hbel) hoS (hc.since hbel) (fun hg => backMay c s (hc.since hbel) b1 b2) (fun hg hcg hle hk hl => (by
      unfold backK at hk
      split at hk
      · rename_i h1
        have h2 := hcg.lim s (List.contains_iff_mem.1 h1)
        exact backDoes (seeO o.v c.v) s (by omega) (see_self hg hcg hle hl) b2
      · cases hk)))
  have HB := Lib.hid (And.intro hbel (And.intro b3 hres))
  have hW := hw0
  unfold OA.cs XA.cells at hW
  have HW := Lib.hid hW
  have hcs : o.cs = #[.bool o.th, .slice o.D o.dt.length o.cd, .int .i64 o.sq, .slice o.C o.cl.length o.cc] := rfl
  have hxs : c.cells = #[.int .i64 c.sq, .slice c.S c.sn.length c.cs] := rfl
  rw [hcs, hxs] at HCH
  rw [hcs] at b0
  rw [hxs] at b1
  rw [hcs, hxs]
  clear hcs hxs hw0 hW hbel hres hz0 ho hoS hc b2 b3
  go_enter Try.func34, Try.ntmps34
  go_upto_region 1 with (fail)
  rw [← HW.out]
  go_wp2_with (first
    | (have _h := b0; refine wpList_loadq rfl 36 (.tmp 3) rfl (w.heap.size) [.bool o.th, .slice o.D o.dt.length o.cd, .int .i64 o.sq, .slice o.C o.cl.length o.cc] _ rfl b0 Try.underlying36 rfl (by kernel_rfl) ?_; clear _h b0)
    | (have _h := b1; refine wpList_loadq rfl 28 (.tmp 4) rfl (w.heap.size + 1) [.int .i64 c.sq, .slice c.S c.sn.length c.cs] _ rfl b1 Try.underlying28 rfl (by kernel_rfl) ?_; clear _h b1))
  refine HCH.out.mono ?_
  rintro e w1 ⟨q, k, rfl, hr, hN, hS, hb⟩
  have K1 := HB.out.2.1.of (hb.block _ HB.out.2.2)
  have HR := Lib.hid (And.intro hr (And.intro hN (And.intro hS hb)))
  have hqs : q.cs = #[.bool q.th, .slice q.D q.dt.length q.cd, .int .i64 q.sq, .slice q.C q.cl.length q.cc] := rfl
  rw [hqs]
  obtain ⟨ek, hek⟩ : ∃ ek, ek = errV k := ⟨_, rfl⟩
  have HEK := Lib.hid hek
  rw [← hek]
  clear hqs hr hN hS hb HCH hek
  go_wp2_with (have _h := K1; refine wpList_storeq rfl 36 (.tmp 6) (.tmp 15) rfl (w.heap.size + 1 + 1 + 1) #[.bool false, .slice none 0 0, .int .i64 0, .slice none 0 0] [.bool q.th, .slice q.D q.dt.length q.cd, .int .i64 q.sq, .slice q.C q.cl.length q.cc] rfl rfl K1 rfl (by kernel_rfl) (OA.cs_one q) ?_; clear _h; intro w9 K9 ho9 hs9)
  refine bodyPost_ret (res_cell_tmp rfl _ _ (w.heap.size + 1 + 1 + 1) [.bool q.th, .slice q.D q.dt.length q.cd, .int .i64 q.sq, .slice q.C q.cl.length q.cc] _ _ rfl rfl K9 Try.underlying36 rfl (by kernel_rfl)) rfl ?_
  refine ⟨q, k, by rw [HEK.out]; rfl, HR.out.1, OA.P.weaken (OA.P.typed HR.out.2.1 fun k t cs hb ht => ho9.block k hb.lt (fun hm => ?_)) HB.out.1.size, HR.out.2.2.1, ?_⟩
  · simp at hm
    subst hm
    refine hb.ne_ K1 ?_ rfl
    rcases ht with rfl | rfl | rfl <;> decide
  · have h1 : Below w.heap.size w w1 := HB.out.1.trans (HR.out.2.2.2.mono HB.out.1.size)
    exact h1.trans (ho9.below (B := w.heap.size) (fun k hk => by simp at hk; omega) h1.size)
end Go.Proofs.Ytcbpdalfindmgaa

/-
  Numbers, or clones, are deleted from a row of the call's own. Conditions: the row reads as it is said to.
-/
namespace Go.Proofs.Ytcbpdalfindmgaa
open Go.RowKit Go.BigFrame
set_option linter.unusedSimpArgs false
set_option linter.unusedVariables false
set_option maxRecDepth 100000
/-- the beginning of a row, where what is behind it is written over -/
theorem own_prefix {w : World} {base size n c r : Nat} {e : TypeId} {xs : List Value} (h : w.ownsRow base e size (.slice (some ⟨r, 0, none⟩) n c) n xs) {i : Nat} (hi : i ≤ n) (vs : List Value) :
    (w.setCells r (i * size) vs).ownsRow base e size (.slice (some ⟨r, 0, none⟩) i c) i (xs.take (i * size)) := by
  rcases h.2 with ⟨h', _⟩ | ⟨g, cap, cur, hv, hb, hh, h1, h2, h3, h4⟩
  · cases h'
  · injection hv with e1 e2 e3
    injection e1 with e1
    injection e1 with e1
    subst e1 e3
    have hB : Blk w r e cur := hh
    obtain ⟨cur', hB', hs'⟩ := Blk.setCells_ vs (i * size) hB
    have him : i * size ≤ n * size := Nat.mul_le_mul_right _ hi
    have hnc : n * size ≤ c * size := Nat.mul_le_mul_right _ h1
    refine ⟨by rw [List.length_take, h.1]; omega, .inr ⟨r, c, cur', rfl, hb, hB', by omega, h2, by rw [hs', h3], ?_⟩⟩
    apply List.ext_getElem?
    intro j
    rw [List.getElem?_take, List.getElem?_take]
    by_cases hj : j < i * size
    · rw [if_pos hj, if_pos hj, ← h4, List.getElem?_take, if_pos (by omega)]
      have a1 := hB'.cell j
      have a2 := hB.cell j
      have a3 := World.cell?_setCells_out r vs (i * size) w ⟨r, j, none⟩ (fun _ _ => .inl hj)
      rw [Array.getElem?_toList, Array.getElem?_toList, ← a1, ← a2]
      exact a3
    · rw [if_neg hj, if_neg hj]
theorem trim1_any {w : World} {ps : Nat} {s : Int} (K : Blk w ps 3 #[.int .i64 s]) (x : Int) : Calls Try.prog 70 #[.int .i64 x, .pointer (some ⟨ps, 0, none⟩)] w fun e w' => e = .returned (.bool (x == s)) ∧ w = w' := by
  have c0 : w.cell? ⟨ps, 0, none⟩ = some (.int .i64 s) := K.cell 0
  clear K
  go_enter Try.func70, Try.ntmps70
  go_wp2
  go_ret
  exact ⟨rfl, rfl⟩
def trimV (ps : Nat) : Value := .func (.func 70) #[] #[.pointer (some ⟨ps, 0, none⟩)]
def IdxTo (w : World) (l : List Int) (s : Int) (e : Ending) (w' : World) : Prop := w = w' ∧ ((e = .returned (.int .i64 (-1)) ∧ ∀ x ∈ l, x ≠ s) ∨ ∃ k : Nat, e = .returned (.int .i64 k) ∧ k < l.length ∧ l[k]? = some s ∧ ∀ x ∈ l.take k, x ≠ s)
set_option maxHeartbeats 2000000 in
theorem idxint_any {w : World} {B n c ps : Nat} {A : Option Addr} {l : List Int} {s : Int} (h : Ints w B A n l) (K : Blk w ps 3 #[.int .i64 s]) (hn : n ≤ 1000000) : Calls Try.prog 98 #[.slice A n c, trimV ps] w (IdxTo w l s) := by
  have H := Lib.hid h
  have HK := Lib.hid K
  have HL := Lib.hid h.len
  clear h K
  go_enter Try.func98, Try.ntmps98
  unfold trimV
  go_wp2
  go_loopw [8] (fun i wr => ∃ k : Nat, k ≤ n ∧ i = .int .i64 k ∧ (∀ x ∈ l.take k, x ≠ s) ∧ wr = w) (fun i _ => n - (intOf i).toNat)
  case atStart => exact ⟨0, by omega, rfl, by simp, rfl⟩
  case round =>
    obtain ⟨k, hk, rfl, hx, rfl⟩ := hrel
    have HX := Lib.hid hx
    clear hx
    by_cases hlt : k < n
    · have hwk : IntKind.i64.wrap ((k : Int) + 1) = (k : Int) + 1 := by rw [IntKind.wrap_i64]; omega
      obtain ⟨ad, y, rfl, hy, hc⟩ := H.out.at_ hlt
      have HY := Lib.hid hy
      clear hy
      have HT := Lib.hid (trim1_any HK.out y)
      go_wp2_with fail
      refine HT.out.mono ?_
      rintro e w' ⟨rfl, rfl⟩
      by_cases he : y = s
      · have hb : (y == s) = true := beq_iff_eq.2 he
        go_wp2
        go_ret
        exact ⟨rfl, .inr ⟨k, rfl, by rw [HL.out]; omega, by rw [HY.out, he], HX.out⟩⟩
      · have hb : (y == s) = false := beq_eq_false_iff_ne.2 he
        go_wp2
        go_roundw
        case rel =>
          refine ⟨k + 1, by omega, by go_num, ?_, by first | rfl | trivial⟩
          rw [take_snocI HY.out]
          intro x hx
          rcases List.mem_append.1 hx with h | h
          · exact HX.out x h
          · simp at h; subst h; exact he
        case measure => simp [intOf]; omega
    · obtain rfl : k = n := by omega
      go_wp2
      go_ret
      refine ⟨rfl, .inl ⟨rfl, ?_⟩⟩
      have := HX.out
      rwa [List.take_of_length_le (by rw [HL.out]; omega)] at this
def noI (s : Int) (l : List Int) : List Int := l.filter fun x => decide (x ≠ s)
theorem noI_id {s : Int} {l : List Int} (h : ∀ x ∈ l, x ≠ s) : noI s l = l := List.filter_eq_self.2 fun x hx => by simpa using h x hx
theorem noI_snoc (s x : Int) (l : List Int) : noI s (l ++ [x]) = noI s l ++ (if x = s then [] else [x]) := by
  unfold noI
  rw [List.filter_append]
  by_cases h : x = s <;> simp [h]
theorem i64s_take (l : List Int) (k : Nat) : i64s (l.take k) = (i64s l).take k := by simp [i64s, List.map_take]
theorem i64s_set (l : List Int) (k : Nat) (x : Int) : i64s (l.set k x) = (i64s l).set k (.int .i64 x) := by simp [i64s, List.map_set]
theorem run_tail_int (r n c i : Nat) (h : i < n) (hc : n ≤ c) (w : World) : (Instr.slice 26 (.slice (some ⟨r, 0, none⟩) n c) (some (.int .i64 (i : Int))) none none).run Try.prog w = .ok (.slice (some ⟨r, i, none⟩) (n - i) (c - i)) w := by
  have hsz : ∀ w, (sizeOf (Try.prog.elem 26)).run Try.prog w = .ok 1 w := fun w => by kernel_rfl
  rw [run_slice_l w 26 (some ⟨r, 0, none⟩) n c (by kernel_rfl) .i64 (i : Int) (by omega) (by omega), hsz]
  simp only [Result.andThen, sliced, Int.toNat_natCast]
  rw [if_neg (by omega)]
  by_cases hz : i = 0 <;> simp [Addr.add, hz]
theorem run_head_int (r n c i : Nat) (h : i ≤ c) (w : World) : (Instr.slice 26 (.slice (some ⟨r, 0, none⟩) n c) none (some (.int .i64 (i : Int))) none).run Try.prog w = .ok (.slice (some ⟨r, 0, none⟩) i c) w := by
  have hsz : ∀ w, (sizeOf (Try.prog.elem 26)).run Try.prog w = .ok 1 w := fun w => by kernel_rfl
  rw [run_slice_h w 26 (some ⟨r, 0, none⟩) n c (by kernel_rfl) .i64 (i : Int) (by omega) (by omega), hsz]
  simp [Result.andThen, sliced, Addr.add]
/-- what deleting comes to -/
def DelTo (w : World) (base c : Nat) (A : Option Addr) (l : List Int) (s : Int) (e : Ending) (w' : World) : Prop := e = .returned (.slice A (noI s l).length c) ∧ OwnI w' base (.slice A (noI s l).length c) (noI s l).length (noI s l) ∧ Only (rowOf (.slice A 0 0)) w w'
set_option maxHeartbeats 4000000 in
theorem delint_any {w : World} {base n c ps : Nat} {A : Option Addr} {l : List Int} {s : Int} (h : OwnI w base (.slice A n c) n l) (K : Blk w ps 3 #[.int .i64 s]) (hp : ps ∉ rowOf (.slice A 0 0)) (hn : n ≤ 1000000) : Calls Try.prog 69 #[.slice A n c, trimV ps] w (DelTo w base c A l s) := by
  have H := Lib.hid h
  have HK := Lib.hid K
  have hlen : l.length = n := by have := h.1; rw [i64s_length] at this; omega
  have HLEN := Lib.hid hlen
  obtain ⟨-, hnc, -, hA⟩ := own_shape h
  have HI := Lib.hid (idxint_any (c := c) h.ints K hn)
  have HP := Lib.hid hp
  have HA := Lib.hid hA
  clear h K hp hlen hA
  unfold trimV at HI ⊢
  go_enter Try.func69, Try.ntmps69
  go_wp2_with fail
  refine HI.out.mono ?_
  rintro e w1 ⟨rfl, ⟨rfl, hall⟩ | ⟨k, rfl, hkl, hks, hpre⟩⟩
  · have hfl := noI_id hall
    have HF := Lib.hid hfl
    clear hall hfl HI
    go_wp2
    go_ret
    refine ⟨?_, ?_, Only.refl _ _⟩
    · rw [HF.out, HLEN.out]; rfl
    · rw [HF.out, HLEN.out]; exact H.out
  · have hkn : k < n := by have := HLEN.out; omega
    obtain ⟨r, rfl⟩ : ∃ r, A = some ⟨r, 0, none⟩ := by
      rcases HA.out with h | ⟨b, h, -⟩
      · subst h
        rcases H.out.2 with ⟨_, e0⟩ | ⟨_, _, _, e, _⟩
        · omega
        · cases e
      · exact ⟨b, h⟩
    have hd : ((k : Int) == -1) = false := by simp
    have hwk : IntKind.i64.wrap ((k : Int) + 1) = (k : Int) + 1 := by rw [IntKind.wrap_i64]; omega
    have hf0 : noI s (l.take (k + 1)) = l.take k := by
      rw [take_snocI hks, noI_snoc, noI_id hpre]
      simp
    have HF0 := Lib.hid hf0
    clear hpre hks hf0 hkl HI
    go_wp2_with fail
    go_loopw [5, 6] (fun vi vj wr => ∃ (i j : Nat) (ys : List Int), i < j ∧ j ≤ n ∧ vi = .int .i64 i ∧ vj = .int .i64 j ∧ ys.length = n ∧ ys.take i = noI s (l.take j) ∧ ys.drop j = l.drop j ∧ OwnI wr base (.slice (some ⟨r, 0, none⟩) n c) n ys ∧ Only [r] w wr) (fun _ vj _ => n - (intOf vj).toNat)
    case atStart => exact ⟨k, k + 1, l, by omega, by omega, rfl, by go_num, HLEN.out, HF0.out.symm, rfl, H.out, Only.refl _ _⟩
    case round =>
      obtain ⟨i, j, ys, hij, hj, rfl, rfl, hyl, hyt, hyd, hrow, ho⟩ := hrel
      obtain ⟨wo, hwo⟩ : ∃ wo, wo = wr := ⟨_, rfl⟩
      subst hwo
      have HR := Lib.hid hrow
      have HY := Lib.hid (And.intro hyt (And.intro hyd hyl))
      have HO := Lib.hid ho
      have hK2 : Blk wo ps 3 #[.int .i64 s] := HK.out.only ho (fun hm => HP.out (by simp at hm; subst hm; simp [rowOf, Value.ownBlock]))
      have HK2 := Lib.hid hK2
      have hrl := (World.ownsRow.lt hrow r rfl).2
      clear hrow hyt hyd ho hyl hK2
      by_cases hlt : j < n
      · obtain ⟨x, hx⟩ : ∃ x, ys[j]? = some x := ⟨_, List.getElem?_eq_getElem (by rw [HY.out.2.2]; exact hlt)⟩
        have hxl : l[j]? = some x := by
          have := congrArg (fun l => l[0]?) HY.out.2.1
          simp only [List.getElem?_drop, Nat.add_zero] at this
          rw [← this]; exact hx
        have cj : wo.cell? ⟨r, j, none⟩ = some (.int .i64 x) := by
          rw [World.ownsRow.cellAt HR.out j (by omega)]
          simp [i64s, hx]
        have ci : ∃ u, wo.cell? ⟨r, i, none⟩ = some u := by
          rw [World.ownsRow.cellAt HR.out i (by omega)]
          exact ⟨_, List.getElem?_eq_getElem (by rw [i64s_length, HY.out.2.2]; omega)⟩
        obtain ⟨ui, ci⟩ := ci
        have fi : wo.frozen? ⟨r, i, none⟩ = false := World.ownsRow.frozenAt HR.out i
        have htj : noI s (l.take (j + 1)) = noI s (l.take j) ++ (if x = s then [] else [x]) := by rw [take_snocI hxl, noI_snoc]
        have hdj : ys.drop (j + 1) = l.drop (j + 1) := by
          have := congrArg (fun l => l.drop 1) HY.out.2.1
          simpa [List.drop_drop] using this
        have HT := Lib.hid (And.intro htj hdj)
        have HX := Lib.hid hx
        have hwj : IntKind.i64.wrap ((j : Int) + 1) = (j : Int) + 1 := by rw [IntKind.wrap_i64]; omega
        have hwi : IntKind.i64.wrap ((i : Int) + 1) = (i : Int) + 1 := by rw [IntKind.wrap_i64]; omega
        have HN := Lib.hid (trim1_any HK2.out x)
        clear htj hdj hx hxl
        go_wp2_with fail
        refine HN.out.mono ?_
        rintro e2 w2 ⟨rfl, rfl⟩
        by_cases he : x = s
        · have hb : (x == s) = true := beq_iff_eq.2 he
          have HE := Lib.hid he
          clear he
          go_wp2
          go_roundw
          case rel =>
            refine ⟨i, j + 1, ys, by omega, by omega, rfl, by go_num, HY.out.2.2, ?_, HT.out.2, HR.out, HO.out⟩
            rw [HT.out.1, if_pos HE.out, List.append_nil]
            exact HY.out.1
          case measure => simp [intOf]; omega
        · have hb : (x == s) = false := beq_eq_false_iff_ne.2 he
          have HE := Lib.hid he
          clear he
          go_wp2
          go_roundw
          case rel =>
            have hst := (World.ownsRow.stored HR.out i (.int .i64 x)).1
            rw [← i64s_set] at hst
            have hyl := HY.out.2.2
            refine ⟨i + 1, j + 1, ys.set i x, by omega, by omega, by go_num, by go_num, by simp [hyl], ?_, ?_, hst, HO.out.setCell (.inl (by simp)) _⟩
            · rw [HT.out.1, if_neg HE.out, List.take_add_one, List.getElem?_set_self (by omega), List.take_set, List.set_eq_of_length_le (by simp; omega), HY.out.1]
              rfl
            · rw [← HT.out.2]
              apply List.ext_getElem?
              intro m
              simp only [List.getElem?_drop]
              rw [List.getElem?_set_ne (by omega)]
          case measure => simp [intOf]; omega
      · obtain rfl : j = n := by omega
        have hsl1 := run_tail_int r j c i hij hnc wo
        have hz : ∀ w, (zeroValue 3).run Try.prog w = .ok (.int .i64 0) w := fun w => by kernel_rfl
        have hclr := fun ty => Lib.run_clear_slice (P := Try.prog) wo 26 3 ty (.int .i64 0) Try.underlying26 hz rfl rfl r i (j - i) (c - i) (by omega) (fun m hm => by
          rw [World.ownsRow.cellAt HR.out (i + m) (by omega)]
          rw [List.getElem?_eq_getElem (by rw [i64s_length, HY.out.2.2]; omega)]
          rfl) (fun m hm => World.ownsRow.frozenAt HR.out (i + m))
        obtain ⟨w5, hw5⟩ : ∃ w5, w5 = wo.setCells r i (List.replicate (j - i) (.int .i64 0)) := ⟨_, rfl⟩
        have hown5 := own_prefix HR.out (i := i) (by omega) (List.replicate (j - i) (.int .i64 0))
        rw [Nat.mul_one, ← hw5, ← i64s_take] at hown5
        have ho5 : Only [r] w w5 := by rw [hw5]; exact HO.out.grown (setCells_grown r _ i wo).1 (fun k e => .inl (by injection e with e; simp [e]))
        have hres : noI s l = ys.take i := by
          have := HY.out.1
          have e : l.take j = l := List.take_of_length_le (by rw [HLEN.out]; exact Nat.le_refl _)
          rw [e] at this
          exact this.symm
        have hil : (ys.take i).length = i := by simp; have := HY.out.2.2; omega
        have hsl2 := run_head_int r j c i (by omega) w5
        have HFIN : Hid (DelTo w base c (some ⟨r, 0, none⟩) l s (.returned (.slice (some ⟨r, 0, none⟩) i c)) w5) := Lib.hid (by
          unfold DelTo
          rw [hres, hil]
          exact ⟨rfl, hown5, ho5.mono (fun k hk => by simp at hk; subst hk; simp [rowOf, Value.ownBlock])⟩)
        have hclr2 : ∀ ty, (Builtin.clear_ #[26] ty #[.slice (some ⟨r, i, none⟩) (j - i) (c - i)]).run Try.prog wo = .ok (.tuple #[]) w5 := fun ty => by rw [hw5]; exact hclr ty
        clear hclr hw5 hown5 ho5 hres hil hz HR HY HO HF0
        go_wp2
        go_ret
        exact HFIN.out
end Go.Proofs.Ytcbpdalfindmgaa

/-
  Clones without snapshots are deleted from a row of the call's own. Conditions: the row reads as it is said to.
-/
namespace Go.Proofs.Ytcbpdalfindmgaa
open Go.RowKit Go.BigFrame
set_option linter.unusedSimpArgs false
set_option linter.unusedVariables false
set_option maxRecDepth 100000
theorem trim2_any (w : World) (c : CA) (h : c.sn.length ≤ 9223372036854775807) : Calls Try.prog 72 #[.agg #[.slice c.S c.sn.length c.cs, .slice c.D c.dt.length c.cd]] w fun e w' => e = .returned (.bool (decide (c.sn = []))) ∧ Below w.heap.size w w' := by
  have HB := Lib.hid (below_alloc w (.cells #[.slice c.S c.sn.length c.cs, .slice c.D c.dt.length c.cd] 79))
  obtain ⟨n, hn⟩ : ∃ n, n = c.sn.length := ⟨_, rfl⟩
  by_cases h0 : n = 0
  · have he : decide (c.sn = []) = true := decide_eq_true (List.eq_nil_of_length_eq_zero (by omega))
    have HE := Lib.hid he
    have hb : ((n : Int) == 0) = true := beq_iff_eq.2 (by omega)
    rw [← hn] at HB ⊢
    clear he h hn h0
    go_enter Try.func72, Try.ntmps72
    go_wp2
    go_ret
    rw [HE.out]
    exact ⟨by rw [← hb]; rfl, HB.out⟩
  · have he : decide (c.sn = []) = false := decide_eq_false (fun e => h0 (by rw [hn, e]; rfl))
    have HE := Lib.hid he
    have hb : ((n : Int) == 0) = false := beq_eq_false_iff_ne.2 (by omega)
    rw [← hn] at HB ⊢
    clear he h hn h0
    go_enter Try.func72, Try.ntmps72
    go_wp2
    go_ret
    rw [HE.out]
    exact ⟨by rw [← hb]; rfl, HB.out⟩
def emptV : Value := .func (.func 72) #[] #[]
def IdcTo (w : World) (l : List CA) (e : Ending) (w' : World) : Prop := Below w.heap.size w w' ∧ ((e = .returned (.int .i64 (-1)) ∧ ∀ x ∈ l, x.sn ≠ []) ∨ ∃ (k : Nat) (x : CA), e = .returned (.int .i64 k) ∧ l[k]? = some x ∧ x.sn = [] ∧ ∀ x ∈ l.take k, x.sn ≠ [])
theorem flat2 {w : World} {B n : Nat} {A : Option Addr} {l : List CA} (h : Reads w B 2 A n (l.flatMap CA.cells)) {k : Nat} {c : CA} (hk : l[k]? = some c) : ∃ ad, A = some ad ∧ ad.block < B ∧ ∀ j v, c.cells[j]? = some v → w.cell? ((ad.add (k * 2)).add j) = some v := by
  have hl := (List.getElem?_eq_some_iff.1 hk).1
  have hn : 0 < n := by
    have := h.1
    have h2 : (l.flatMap CA.cells).length = l.length * 2 := by
      clear hk hl h this
      induction l with
      | nil => rfl
      | cons x l ih => simp [CA.cells] at ih ⊢; omega
    omega
  obtain ⟨ad, e, hb, hc⟩ := h.2 hn
  refine ⟨ad, e, hb, fun j v hj => ?_⟩
  rw [add_of_add]
  have hj2 : j < 2 := by have := (List.getElem?_eq_some_iff.1 hj).1; rwa [CA.cells_len] at this
  exact hc _ v (by rw [flat_at CA.cells 2 CA.cells_len l k j c hk hj2]; exact hj)
set_option maxHeartbeats 2000000 in
theorem idxcl_any {w : World} {B n c : Nat} {A : Option Addr} {l : List CA} (h : Reads w B 2 A n (l.flatMap CA.cells)) (hl : l.length = n) (hn : n ≤ 1000000) (hnc : n ≤ c) (hs : ∀ x ∈ l, x.sn.length ≤ 1000000) : Calls Try.prog 99 #[.slice A n c, emptV] w (IdcTo w l) := by
  have H := Lib.hid h
  have HL := Lib.hid (And.intro hl hs)
  clear h hl hs
  go_enter Try.func99, Try.ntmps99
  unfold emptV
  go_wp2
  go_loopw [8] (fun i wr => ∃ k : Nat, k ≤ n ∧ i = .int .i64 k ∧ (∀ x ∈ l.take k, x.sn ≠ []) ∧ Below w.heap.size w wr) (fun i _ => n - (intOf i).toNat)
  case atStart => exact ⟨0, by omega, rfl, by simp, Below.refl _ _⟩
  case round =>
    obtain ⟨k, hk, rfl, hx, hb⟩ := hrel
    obtain ⟨wo, hwo⟩ : ∃ wo, wo = wr := ⟨_, rfl⟩
    subst hwo
    have HX := Lib.hid (And.intro hx hb)
    clear hx
    by_cases hlt : k < n
    · have hwk : IntKind.i64.wrap ((k : Int) + 1) = (k : Int) + 1 := by rw [IntKind.wrap_i64]; omega
      obtain ⟨x, hxk⟩ : ∃ x, l[k]? = some x := ⟨_, List.getElem?_eq_getElem (by have := HL.out.1; omega)⟩
      obtain ⟨ad, rfl, -, hc⟩ := flat2 (H.out.since hb) hxk
      have hsm := HL.out.2 x (List.mem_of_getElem? hxk)
      have HXK := Lib.hid hxk
      have HT := Lib.hid (trim2_any wo x (by omega))
      clear hxk hb
      go_wp2_with (have _h := hc; refine wpList_load_scl rfl (.tmp 14) rfl _ rfl x hc ?_; clear _h hc)
      refine HT.out.mono ?_
      rintro e w2 ⟨rfl, hb2⟩
      have HB2 := Lib.hid (HX.out.2.trans (hb2.mono HX.out.2.size))
      clear hb2 HT
      by_cases he : x.sn = []
      · have hbb : decide (x.sn = []) = true := decide_eq_true he
        have HE := Lib.hid he
        generalize decide (x.sn = []) = bb at hbb ⊢
        subst hbb
        clear he
        go_wp2
        go_ret
        exact ⟨HB2.out, .inr ⟨k, x, rfl, HXK.out, HE.out, HX.out.1⟩⟩
      · have hbb : decide (x.sn = []) = false := decide_eq_false he
        have HE := Lib.hid he
        generalize decide (x.sn = []) = bb at hbb ⊢
        subst hbb
        clear he
        go_wp2
        go_roundw
        case rel =>
          refine ⟨k + 1, by omega, by go_num, ?_, HB2.out⟩
          rw [take_snocI HXK.out]
          intro y hy
          rcases List.mem_append.1 hy with h | h
          · exact HX.out.1 y h
          · simp at h; subst h; exact HE.out
        case measure => simp [intOf]; omega
    · obtain rfl : k = n := by omega
      clear hb
      go_wp2
      go_ret
      refine ⟨HX.out.2, .inl ⟨rfl, ?_⟩⟩
      have := HX.out.1
      rwa [List.take_of_length_le (by rw [HL.out.1]; omega)] at this
def fullC (l : List CA) : List CA := l.filter fun c => decide (c.sn ≠ [])
theorem fullC_id {l : List CA} (h : ∀ x ∈ l, x.sn ≠ []) : fullC l = l := List.filter_eq_self.2 fun x hx => by simpa using h x hx
theorem fullC_snoc (x : CA) (l : List CA) : fullC (l ++ [x]) = fullC l ++ (if x.sn = [] then [] else [x]) := by
  unfold fullC
  rw [List.filter_append]
  by_cases h : x.sn = [] <;> simp [h]
theorem flat_take (l : List CA) (k : Nat) (hk : k ≤ l.length) : (l.take k).flatMap CA.cells = (l.flatMap CA.cells).take (k * 2) := by
  have h1 : l = l.take k ++ l.drop k := (List.take_append_drop k l).symm
  conv => rhs; rw [h1, List.flatMap_append]
  have h2 : ((l.take k).flatMap CA.cells).length = k * 2 := by
    have : ∀ m : List CA, (m.flatMap CA.cells).length = m.length * 2 := fun m => by
      induction m with
      | nil => rfl
      | cons x m ih => simp [CA.cells] at ih ⊢; omega
    rw [this, List.length_take]
    omega
  rw [← h2, List.take_left]
theorem run_tail_cl (r n c i : Nat) (h : i < n) (hc : n ≤ c) (w : World) : (Instr.slice 34 (.slice (some ⟨r, 0, none⟩) n c) (some (.int .i64 (i : Int))) none none).run Try.prog w = .ok (.slice (some ⟨r, i * 2, none⟩) (n - i) (c - i)) w := by
  have hsz : ∀ w, (sizeOf (Try.prog.elem 34)).run Try.prog w = .ok 2 w := fun w => by kernel_rfl
  rw [run_slice_l w 34 (some ⟨r, 0, none⟩) n c (by kernel_rfl) .i64 (i : Int) (by omega) (by omega), hsz]
  simp only [Result.andThen, sliced, Int.toNat_natCast]
  rw [if_neg (by omega)]
  by_cases hz : i * 2 = 0 <;> simp [Addr.add, hz]
theorem run_head_cl (r n c i : Nat) (h : i ≤ c) (w : World) : (Instr.slice 34 (.slice (some ⟨r, 0, none⟩) n c) none (some (.int .i64 (i : Int))) none).run Try.prog w = .ok (.slice (some ⟨r, 0, none⟩) i c) w := by
  have hsz : ∀ w, (sizeOf (Try.prog.elem 34)).run Try.prog w = .ok 2 w := fun w => by kernel_rfl
  rw [run_slice_h w 34 (some ⟨r, 0, none⟩) n c (by kernel_rfl) .i64 (i : Int) (by omega) (by omega), hsz]
  simp [Result.andThen, sliced, Addr.add]
theorem run_clear_cl (w : World) (r o n c : Nat) (hn : 0 < n) (hc : ∀ j, j < n * 2 → (w.cell? ⟨r, o + j, none⟩).isSome = true) (hf : ∀ j, j < n * 2 → w.frozen? ⟨r, o + j, none⟩ = false) :
    ∃ vs : List Value, vs.length = n * 2 ∧ ∀ ty, (Builtin.clear_ #[34] ty #[.slice (some ⟨r, o, none⟩) n c]).run Try.prog w = .ok (.tuple #[]) (w.setCells r o vs) := by
  have hv : ∀ w, (zeroValue 79).run Try.prog w = .ok (.agg #[.slice none 0 0, .slice none 0 0]) w := fun w => by kernel_rfl
  have ht : Try.prog.underlying 34 = some (.slice 79) := by kernel_rfl
  have hlen : (Builtin.zeroCells #[Value.slice none 0 0, .slice none 0 0] n).size = n * 2 := by simp [Builtin.zeroCells]; try omega
  have hone : ∀ v ∈ (Builtin.zeroCells #[Value.slice none 0 0, .slice none 0 0] n).toList, v.oneCell' = true := by
    intro v hv
    simp [Builtin.zeroCells] at hv
    obtain ⟨j, hj, rfl⟩ := hv
    have : j % 2 = 0 ∨ j % 2 = 1 := by omega
    rcases this with h | h <;> simp [h] <;> rfl
  have hst := run_storeCells_cells (P := Try.prog) r o (Builtin.zeroCells #[Value.slice none 0 0, .slice none 0 0] n).toList 0 w (by simpa [hlen] using hc) (by simpa [hlen] using hf) hone
  simp only [Nat.add_zero] at hst
  refine ⟨(Builtin.zeroCells #[Value.slice none 0 0, .slice none 0 0] n).toList, by simpa using hlen, fun ty => ?_⟩
  obtain ⟨m, rfl⟩ : ∃ m, n = m + 1 := ⟨n - 1, by omega⟩
  simp [Builtin.clear_, run_underlying ht, hv, hst, Value.cells]
/-- what deleting comes to -/
def DelCTo (w : World) (base c : Nat) (A : Option Addr) (l : List CA) (e : Ending) (w' : World) : Prop := e = .returned (.slice A (fullC l).length c) ∧ OwnC 79 w' base (.slice A (fullC l).length c) (fullC l) ∧ Only (rowOf (.slice A 0 0)) w w'
set_option maxHeartbeats 4000000 in
theorem delcl_any {w : World} {base c : Nat} {A : Option Addr} {l : List CA} (h : OwnC 79 w base (.slice A l.length c) l) (hn : l.length ≤ 1000000) (hs : ∀ x ∈ l, x.sn.length ≤ 1000000) : Calls Try.prog 71 #[.slice A l.length c, emptV] w (DelCTo w base c A l) := by
  have H := Lib.hid h
  obtain ⟨-, hnc, -, hA⟩ := own_shape h
  have HI := Lib.hid (idxcl_any (c := c) (Reads.of_own h) rfl hn hnc hs)
  have HA := Lib.hid hA
  have HSL := Lib.hid hs
  obtain ⟨n, hnl⟩ : ∃ n, n = l.length := ⟨_, rfl⟩
  have HLEN := Lib.hid hnl.symm
  rw [← hnl] at HI hnc hn ⊢
  have H' : Hid (OwnC 79 w base (.slice A n c) l) := Lib.hid (by rw [hnl]; exact H.out)
  clear h hA hs hnl H
  unfold emptV at HI ⊢
  go_enter Try.func71, Try.ntmps71
  go_wp2_with fail
  refine HI.out.mono ?_
  rintro e w1 ⟨hb1, ⟨rfl, hall⟩ | ⟨k, xk, rfl, hkx, hks, hpre⟩⟩
  · have hfl := fullC_id hall
    have HF := Lib.hid hfl
    have HB1 := Lib.hid hb1
    clear hall hfl HI hb1
    go_wp2
    go_ret
    refine ⟨?_, ?_, Only.of_below HB1.out _⟩
    · rw [HF.out, HLEN.out]; rfl
    · rw [HF.out, HLEN.out]; exact OwnC.below H'.out HB1.out
  · have hkn : k < n := by have := HLEN.out; have := (List.getElem?_eq_some_iff.1 hkx).1; omega
    obtain ⟨r, rfl⟩ : ∃ r, A = some ⟨r, 0, none⟩ := by
      rcases HA.out with h | ⟨b, h, -⟩
      · subst h
        rcases H'.out.2 with ⟨_, e0⟩ | ⟨_, _, _, e, _⟩
        · have := HLEN.out; omega
        · cases e
      · exact ⟨b, h⟩
    have hd : ((k : Int) == -1) = false := by simp
    have hwk : IntKind.i64.wrap ((k : Int) + 1) = (k : Int) + 1 := by rw [IntKind.wrap_i64]; omega
    have hf0 : fullC (l.take (k + 1)) = l.take k := by
      rw [take_snocI hkx, fullC_snoc, fullC_id hpre, if_pos hks, List.append_nil]
    have HF0 := Lib.hid hf0
    have HB1 := Lib.hid hb1
    clear hpre hks hf0 hkx HI hb1
    go_wp2_with fail
    go_loopw [5, 6] (fun vi vj wr => ∃ (i j : Nat) (ys : List CA), i < j ∧ j ≤ n ∧ vi = .int .i64 i ∧ vj = .int .i64 j ∧ ys.length = n ∧ ys.take i = fullC (l.take j) ∧ ys.drop j = l.drop j ∧ (∀ x ∈ ys, x.sn.length ≤ 1000000) ∧ OwnC 79 wr base (.slice (some ⟨r, 0, none⟩) n c) ys ∧ Only [r] w wr) (fun _ vj _ => n - (intOf vj).toNat)
    case atStart => exact ⟨k, k + 1, l, by omega, by omega, rfl, by go_num, HLEN.out, HF0.out.symm, rfl, HSL.out, OwnC.below H'.out HB1.out, Only.of_below HB1.out _⟩
    case round =>
      obtain ⟨i, j, ys, hij, hj, rfl, rfl, hyl, hyt, hyd, hys, hrow, ho⟩ := hrel
      obtain ⟨wo, hwo⟩ : ∃ wo, wo = wr := ⟨_, rfl⟩
      subst hwo
      have HR := Lib.hid hrow
      have HY := Lib.hid (And.intro hyt (And.intro hyd (And.intro hyl hys)))
      have HO := Lib.hid ho
      have hrl := (World.ownsRow.lt hrow r rfl).2
      clear hrow hyt hyd ho hyl hys
      by_cases hlt : j < n
      · obtain ⟨x, hx⟩ : ∃ x, ys[j]? = some x := ⟨_, List.getElem?_eq_getElem (by rw [HY.out.2.2.1]; exact hlt)⟩
        have hxl : l[j]? = some x := by
          have := congrArg (fun l => l[0]?) HY.out.2.1
          simp only [List.getElem?_drop, Nat.add_zero] at this
          rw [← this]; exact hx
        have hown9 : wo.ownsRow base 79 2 (.slice (some ⟨r, 0, none⟩) n c) n (ys.flatMap CA.cells) := by have h9 := HR.out; unfold OwnC at h9; rw [HY.out.2.2.1] at h9; exact h9
        obtain ⟨ad, hade, -, hc0⟩ := flat2 (Reads.of_own hown9) hx
        clear hown9
        injection hade with hade
        subst hade
        have hc : ∀ m v, x.cells[m]? = some v → wo.cell? ((⟨r, j * 2, none⟩ : Addr).add m) = some v := fun m v hm => by
          have := hc0 m v hm
          rwa [add_zero_off] at this
        have hsm := HY.out.2.2.2 x (List.mem_of_getElem? hx)
        have htj : fullC (l.take (j + 1)) = fullC (l.take j) ++ (if x.sn = [] then [] else [x]) := by rw [take_snocI hxl, fullC_snoc]
        have hdj : ys.drop (j + 1) = l.drop (j + 1) := by
          have := congrArg (fun l => l.drop 1) HY.out.2.1
          simpa [List.drop_drop] using this
        have HT := Lib.hid (And.intro htj hdj)
        have HX := Lib.hid hx
        have hwj : IntKind.i64.wrap ((j : Int) + 1) = (j : Int) + 1 := by rw [IntKind.wrap_i64]; omega
        have hwi : IntKind.i64.wrap ((i : Int) + 1) = (i : Int) + 1 := by rw [IntKind.wrap_i64]; omega
        obtain ⟨wA, hwA⟩ : ∃ wA, wA = wo.alloc (.cells #[.slice x.S x.sn.length x.cs, .slice x.D x.dt.length x.cd] 79) := ⟨_, rfl⟩
        have hbA : Below wo.heap.size wo wA := by rw [hwA]; exact below_alloc wo _
        have KA : Blk wA wo.heap.size 79 #[.slice x.S x.sn.length x.cs, .slice x.D x.dt.length x.cd] := by rw [hwA]; exact Blk.new wo _ _
        have HN := Lib.hid (trim2_any wA x (by omega))
        have HWA := Lib.hid hwA
        have HBA := Lib.hid (And.intro hbA KA)
        clear htj hdj hx hxl hc0 hwA hbA KA
        go_upto_region 8 with (have _h := hc; refine wpList_load_scl rfl (.tmp 24) rfl _ rfl x hc ?_; clear _h hc)
        rw [← HWA.out]
        have KA := HBA.out.2
        go_wp2_with (have _h := KA; refine wpList_loadq rfl 79 (.tmp 7) rfl wo.heap.size [.slice x.S x.sn.length x.cs, .slice x.D x.dt.length x.cd] _ rfl KA Try.underlying79 rfl (by kernel_rfl) ?_; clear _h KA)
        refine HN.out.mono ?_
        rintro e2 w2 ⟨rfl, hb2⟩
        have hbel2 : Below wo.heap.size wo w2 := HBA.out.1.trans (hb2.mono HBA.out.1.size)
        have K2 := HBA.out.2.of (hb2.block _ HBA.out.2.lt)
        have HR2 := Lib.hid (OwnC.below HR.out hbel2)
        have HO2 := Lib.hid (HO.out.trans (Only.of_below hbel2 [r]) (Fresh.refl _ _))
        have HB2 := Lib.hid hbel2
        clear hb2 hbel2 HN HBA HWA
        by_cases he : x.sn = []
        · have hbb : decide (x.sn = []) = true := decide_eq_true he
          have HE := Lib.hid he
          generalize decide (x.sn = []) = bb at hbb ⊢
          subst hbb
          clear he
          go_wp2
          go_roundw
          case rel =>
            refine ⟨i, j + 1, ys, by omega, by omega, rfl, by go_num, HY.out.2.2.1, ?_, HT.out.2, HY.out.2.2.2, HR2.out, HO2.out⟩
            rw [HT.out.1, if_pos HE.out, List.append_nil]
            exact HY.out.1
          case measure => simp [intOf]; omega
        · have hbb : decide (x.sn = []) = false := decide_eq_false he
          have HE := Lib.hid he
          generalize decide (x.sn = []) = bb at hbb ⊢
          subst hbb
          clear he
          have hyl := HY.out.2.2.1
          have hst := OwnC.set HR2.out (k := i) (by omega) x
          have hth : w2.there r (i * 2) 2 := by
            rcases HR2.out.2 with ⟨h, _⟩ | ⟨g9, cap9, cur9, e9, _, hh9, hn9, _, hs9, _⟩
            · cases h
            · injection e9 with e9 _ _
              injection e9 with e9
              injection e9 with e9
              subst e9
              refine (show Blk w2 _ 79 cur9 from hh9).there ?_
              rw [hs9]
              omega
          have HST := Lib.hid (And.intro hst.1 hst.2.1)
          have HYL := Lib.hid hyl
          clear hst hyl
          go_wp2_with (first
            | (have _h := K2; refine wpList_loadq rfl 79 (.tmp 7) rfl wo.heap.size [.slice x.S x.sn.length x.cs, .slice x.D x.dt.length x.cd] _ rfl K2 Try.underlying79 rfl (by kernel_rfl) ?_; clear _h K2)
            | (have _h := hth; refine wpList_store_mid rfl 79 (.tmp 33) (.tmp 32) rfl r (i * 2) #[.slice x.S x.sn.length x.cs, .slice x.D x.dt.length x.cd] rfl rfl hth (by kernel_rfl) (by simp [Value.oneCell']) ?_; clear _h hth))
          go_roundw
          case rel =>
            have hyl := HYL.out
            refine ⟨i + 1, j + 1, ys.set i x, by omega, by omega, by go_num, by go_num, by simp [hyl], ?_, ?_, fun y hy => ?_, HST.out.1, HO2.out.grown HST.out.2 (fun k e => .inl (by injection e with e; simp [e]))⟩
            · rw [HT.out.1, if_neg HE.out, List.take_add_one, List.getElem?_set_self (by omega), List.take_set, List.set_eq_of_length_le (by simp; omega), HY.out.1]
              rfl
            · rw [← HT.out.2]
              apply List.ext_getElem?
              intro m
              simp only [List.getElem?_drop]
              rw [List.getElem?_set_ne (by omega)]
            · rcases List.mem_or_eq_of_mem_set hy with h | h
              · exact HY.out.2.2.2 y h
              · rw [h]; exact hsm
          case measure => simp [intOf]; omega
      · obtain rfl : j = n := by omega
        have hsl1 := run_tail_cl r j c i hij hnc wo
        have hcells : ∀ m, m < (j - i) * 2 → (wo.cell? ⟨r, i * 2 + m, none⟩).isSome = true ∧ wo.frozen? ⟨r, i * 2 + m, none⟩ = false := fun m hm => by
          refine ⟨?_, World.ownsRow.frozenAt (by have h9 := HR.out; unfold OwnC at h9; rw [HY.out.2.2.1] at h9; exact h9) (i * 2 + m)⟩
          rw [World.ownsRow.cellAt (by have h9 := HR.out; unfold OwnC at h9; rw [HY.out.2.2.1] at h9; exact h9) (i * 2 + m) (by omega)]
          have h8 := HR.out.1
          rw [HY.out.2.2.1] at h8
          rw [List.getElem?_eq_getElem (by omega)]
          rfl
        obtain ⟨vs, -, hclr⟩ := run_clear_cl wo r (i * 2) (j - i) (c - i) (by omega) (fun m hm => (hcells m hm).1) (fun m hm => (hcells m hm).2)
        obtain ⟨w5, hw5⟩ : ∃ w5, w5 = wo.setCells r (i * 2) vs := ⟨_, rfl⟩
        have hown5 := own_prefix (n := j) (by have h9 := HR.out; unfold OwnC at h9; rw [HY.out.2.2.1] at h9; exact h9) (i := i) (by omega) vs
        rw [← hw5, ← flat_take ys i (by have := HY.out.2.2.1; omega)] at hown5
        have ho5 : Only [r] w w5 := by rw [hw5]; exact HO.out.grown (setCells_grown r _ (i * 2) wo).1 (fun k e => .inl (by injection e with e; simp [e]))
        have hres : fullC l = ys.take i := by
          have := HY.out.1
          have e : l.take j = l := List.take_of_length_le (by rw [HLEN.out]; exact Nat.le_refl _)
          rw [e] at this
          exact this.symm
        have hil : (ys.take i).length = i := by simp; have := HY.out.2.2.1; omega
        have hsl2 := run_head_cl r j c i (by omega) w5
        have HFIN : Hid (DelCTo w base c (some ⟨r, 0, none⟩) l (.returned (.slice (some ⟨r, 0, none⟩) i c)) w5) := Lib.hid (by
          unfold DelCTo
          rw [hres, hil]
          refine ⟨rfl, ?_, ho5.mono (fun k hk => by simp at hk; subst hk; simp [rowOf, Value.ownBlock])⟩
          unfold OwnC
          rw [hil]
          exact hown5)
        have hclr2 : ∀ ty, (Builtin.clear_ #[34] ty #[.slice (some ⟨r, i * 2, none⟩) (j - i) (c - i)]).run Try.prog wo = .ok (.tuple #[]) w5 := fun ty => by rw [hw5]; exact hclr ty
        clear hclr hw5 hown5 ho5 hres hil hcells HR HY HO HF0
        go_wp2
        go_ret
        exact HFIN.out
end Go.Proofs.Ytcbpdalfindmgaa
