/-
  Bytes are written into an object's head. Conditions: the object lies where it is said to; the bytes read as they are said to.
-/
import Derived.Test.YtjepfeagbiceoaaQn
namespace Go.Proofs.Ytjepfeagbiceoaa
open Go.RowKit Go.BigFrame
set_option linter.unusedSimpArgs false
set_option linter.unusedVariables false
set_option maxRecDepth 100000
def writeK (a : Int) (n : Nat) : Nat := if a < 0 ∨ 256 - (n : Int) < a then 1 else 0
def writeD (d : List Nat) (a : Nat) (nb : List Nat) : List Nat := (d ++ List.replicate (a + nb.length - d.length) 0).take a ++ nb ++ (d ++ List.replicate (a + nb.length - d.length) 0).drop (a + nb.length)
theorem writeD_len (d : List Nat) (a : Nat) (nb : List Nat) : (writeD d a nb).length = max d.length (a + nb.length) := by simp [writeD]; omega
theorem writeMay {w : World} {pa pd n c : Nat} {A : Option Addr} (a : Int) (Ka : Blk w pa 3 #[.int .i64 a]) (Kd : Blk w pd 22 #[.slice A n c]) (hn : n ≤ 100000) : MayC w 73 #[.pointer (some ⟨pa, 0, none⟩), .pointer (some ⟨pd, 0, none⟩)] (writeK a n) := fun w1 hb => by
  have ca : w1.cell? ⟨pa, 0, none⟩ = some (.int .i64 a) := (Ka.of (hb.block _ Ka.lt)).cell 0
  have cd : w1.cell? ⟨pd, 0, none⟩ = some (.slice A n c) := (Kd.of (hb.block _ Kd.lt)).cell 0
  clear Ka Kd hb
  have hw : IntKind.i64.wrap (256 - (n : Int)) = 256 - (n : Int) := by rw [IntKind.wrap_i64]; omega
  by_cases h0 : a < 0
  · have d0 : decide (a < 0) = true := decide_eq_true h0
    have HK : Hid (writeK a n = 1) := Lib.hid (by unfold writeK; rw [if_pos (.inl h0)])
    clear h0
    go_enter Try.func73, Try.ntmps73
    go_wp2
    go_ret
    rw [HK.out]
    exact ⟨rfl, Below.refl _ _⟩
  · have d0 : decide (a < 0) = false := decide_eq_false h0
    by_cases h1 : 256 - (n : Int) < a
    · have d1 : decide (256 - (n : Int) < a) = true := decide_eq_true h1
      have HK : Hid (writeK a n = 1) := Lib.hid (by unfold writeK; rw [if_pos (.inr h1)])
      clear h0 h1
      go_enter Try.func73, Try.ntmps73
      go_wp2
      go_ret
      rw [HK.out]
      exact ⟨rfl, Below.refl _ _⟩
    · have d1 : decide (256 - (n : Int) < a) = false := decide_eq_false h1
      have HK : Hid (writeK a n = 0) := Lib.hid (by unfold writeK; rw [if_neg (by omega)])
      clear h0 h1
      go_enter Try.func73, Try.ntmps73
      go_wp2
      go_ret
      rw [HK.out]
      exact ⟨rfl, Below.refl _ _⟩
theorem run_copy_none (w : World) (A1 A2 : Option Addr) (m1 c1 c2 : Nat) : (Builtin.copy_ #[22, 22] 3 #[.slice A1 m1 c1, .slice A2 0 c2]).run Try.prog w = .ok (.int .i64 0) w := by
  obtain ⟨i0, hi0, hz0, hz1, hz2⟩ := info_parts byte_info
  cases A1 <;> cases A2 <;> simp [Builtin.copy_, run_underlying Try.underlying22, Builtin.lenOf, Builtin.firstCells, sizeOf, typeInfo, hi0, hz1, storeCells, loadCells, loadCellsFrom, goInt]
/-- bytes are copied into a row of the call's own -/
theorem copy_part {w : World} {base m c a n B cs : Nat} {D As : Option Addr} {R nb : List Nat} (h : Own w base (.slice D m c) m R) (hk : a + n ≤ m) (hB : Bytes w B As n nb) : ∃ A1 w' r, (Instr.slice 22 (.slice D m c) (some (.int .i64 (a : Int))) none none).run Try.prog w = .ok (.slice A1 (m - a) (c - a)) w ∧
    (Builtin.copy_ #[22, 22] 3 #[.slice A1 (m - a) (c - a), .slice As n cs]).run Try.prog w = .ok (.int .i64 r) w' ∧ Own w' base (.slice D m c) m (R.take a ++ nb ++ R.drop (a + nb.length)) ∧ Only (rowOf (.slice D 0 0)) w w' := by
  obtain ⟨-, hl, hmc, hD⟩ := own_len h
  have h1 := run_cut_bytes D m c a (by omega) w
  have hnl := hB.len
  rcases Nat.eq_zero_or_pos n with hk0 | hk0
  · subst hk0
    obtain rfl : nb = [] := List.eq_nil_of_length_eq_zero hnl
    refine ⟨_, w, 0, h1, run_copy_none w _ _ _ _ _, ?_, Only.refl _ _⟩
    have : R.take a ++ [] ++ R.drop (a + ([] : List Nat).length) = R := by simp
    rw [this]
    exact h
  · obtain ⟨b, rfl⟩ : ∃ b, D = some ⟨b, 0, none⟩ := by
      rcases hD with rfl | hb
      · rcases h.2 with ⟨_, e0⟩ | ⟨_, _, _, e, _⟩
        · omega
        · cases e
      · exact hb
    have e1 : (if c = a then some (⟨b, 0, none⟩ : Addr) else (some (⟨b, 0, none⟩ : Addr)).map (·.add (a * 1))) = some ⟨b, a, none⟩ := by
      rw [if_neg (by omega), Option.map_some, Nat.mul_one, add_zero_off]
    rw [e1] at h1
    obtain ⟨a2, rfl, -, hcell⟩ := hB.1.2 hk0
    obtain ⟨cur, hcur, hfit, hown2, hon2⟩ := own_copy (at_ := a) (nb := nb) h (by omega)
    have hcp := run_copy_row (P := Try.prog) w 22 22 3 5 b a (m - a) (c - a) a2 n cs cur 5 (u8s nb) Try.underlying22 (by kernel_rfl) hcur (by rw [u8s_length]; have : Nat.min n (m - a) = n := Nat.min_eq_left (by omega); omega) hcell (by rw [u8s_length]; exact hfit) (oneCell_u8s _)
    exact ⟨_, _, _, h1, hcp, hown2, hon2.mono (fun k hk => by simp at hk; subst hk; simp [rowOf, Value.ownBlock])⟩
set_option maxHeartbeats 8000000 in
theorem writeDoes {w : World} {pa pd n c : Nat} {A : Option Addr} (q0 : OV) (a : Nat) (nb : List Nat) (ha : a + n ≤ 256) (Ka : Blk w pa 3 #[.int .i64 (a : Int)]) (Kd : Blk w pd 22 #[.slice A n c]) (hdat : Bytes w w.heap.size A n nb) : DoesC w 74 #[.pointer (some ⟨pa, 0, none⟩), .pointer (some ⟨pd, 0, none⟩)] q0 (some (writeD q0.dt a nb)) := fun w1 g q hb hg K hN hS hv => by
  subst hv
  have hz1 := hb.size
  have Ka1 := Ka.of (hb.block _ Ka.lt)
  have Kd1 := Kd.of (hb.block _ Kd.lt)
  have hd1 : Bytes w1 w.heap.size A n nb := hdat.below hb
  have hnl := hdat.len
  have HK := Lib.hid (And.intro K (And.intro Ka1 (And.intro Kd1 (And.intro hd1 hnl))))
  have HN := Lib.hid hN
  have HS := Lib.hid hS
  have HPP : Hid (pa < w.heap.size ∧ pd < w.heap.size ∧ w.heap.size ≤ w1.heap.size ∧ g < w1.heap.size) := Lib.hid ⟨Ka.lt, Kd.lt, hz1, K.lt⟩
  have hgl := K.lt
  have hK := K
  clear hb Ka Kd hdat Ka1 Kd1 hd1 hN hS K hz1 hgl hnl
  show Calls Try.prog 74 #[.pointer (some ⟨g, 0, none⟩), .pointer (some ⟨pa, 0, none⟩), .pointer (some ⟨pd, 0, none⟩)] w1 _
  go_enter Try.func74, Try.ntmps74
  go_upto_region 1 with (have _h := hK; refine wpList_setq rfl 4 (.tmp 6) (.const (.bool true)) rfl g 0 36 q.cs (.bool true) rfl rfl hK (by simp [OA.cs]) (by kernel_rfl) rfl ?_; clear _h hK; intro wA KA hoA hsA)
  have KA' : Blk wA g 36 (OA.cs {q with th := true}) := by simpa [OA.cs] using KA
  have hNA : OA.N {q with th := true} wA w.heap.size := by
    have h1 : q.N wA w.heap.size := HN.out.typed fun k t cs hb ht => hoA.block k hb.lt (fun hm => by
      simp at hm
      subst hm
      refine hb.ne_ HK.out.1 ?_ rfl
      rcases ht with rfl | rfl | rfl <;> decide)
    exact ⟨h1.dt, h1.ok, h1.row, h1.cl, h1.q1, h1.q2, h1.dD, h1.dS⟩
  have hsz : wA.heap.size = w1.heap.size := hsA
  have hlo : ∀ k, k < w.heap.size → k ≠ g := fun k hk e => by omega
  have KaA : Blk wA pa 3 #[.int .i64 (a : Int)] := HK.out.2.1.only hoA (fun hm => by simp at hm; exact hlo pa HPP.out.1 hm)
  have KdA : Blk wA pd 22 #[.slice A n c] := HK.out.2.2.1.only hoA (fun hm => by simp at hm; exact hlo pd HPP.out.2.1 hm)
  have ca : wA.cell? ⟨pa, 0, none⟩ = some (.int .i64 (a : Int)) := KaA.cell 0
  have cd : wA.cell? ⟨pd, 0, none⟩ = some (.slice A n c) := KdA.cell 0
  have hwr : IntKind.i64.wrap ((a : Int) + (n : Int)) = ((a + n : Nat) : Int) := by rw [IntKind.wrap_i64]; omega
  have HGR := Lib.hid (grow_any (n := a + n) {q with th := true} KA' hNA HS.out.dt (by rw [hsz]; exact HPP.out.2.2.1) (by omega))
  have HA := Lib.hid (And.intro KA' (And.intro hNA (And.intro KaA (And.intro KdA (And.intro hoA hsz)))))
  clear KA KA' hNA KaA KdA hoA hsA hsz hlo
  obtain ⟨an, han⟩ : ∃ an, an = a + n := ⟨_, rfl⟩
  have HAN := Lib.hid han
  rw [← han] at HGR hwr
  clear han
  go_wp2_with fail
  refine HGR.out.mono ?_
  rintro e w2 ⟨rfl, D2, c2, K2, ho2, hon2, hnew2⟩
  obtain ⟨L2, hL2⟩ : ∃ L2, L2 = (q.dt ++ List.replicate (an - q.dt.length) 0).length := ⟨_, rfl⟩
  have hL2' : L2 = max q.dt.length (a + n) := by rw [hL2, HAN.out]; simp; omega
  have K2' : Blk w2 g 36 #[.bool true, .slice D2 L2 c2, .int .i64 q.sq, .slice q.C q.cl.length q.cc] := by rw [hL2]; exact K2
  have ho2' : Own w2 w.heap.size (.slice D2 L2 c2) L2 (q.dt ++ List.replicate (an - q.dt.length) 0) := by rw [hL2]; exact ho2
  have hF2 : ∀ k ∈ g :: rowOf (.slice q.D 0 0), w.heap.size ≤ k := fun k hk => by
    rcases List.mem_cons.1 hk with e | hk
    · omega
    · exact (OA.P.dU HN.out k hk).1
  have Ka2 : Blk w2 pa 3 #[.int .i64 (a : Int)] := HA.out.2.2.1.only hon2 (fun hm => by have := hF2 _ hm; have := HPP.out.1; omega)
  have Kd2 : Blk w2 pd 22 #[.slice A n c] := HA.out.2.2.2.1.only hon2 (fun hm => by have := hF2 _ hm; have := HPP.out.2.1; omega)
  have hon12 : Only (g :: rowOf (.slice q.D 0 0)) w1 w2 := (HA.out.2.2.2.2.1.mono (fun k hk => by simp at hk; simp [hk])).trans hon2 (fun k hk => .inl hk)
  have hd2 : Bytes w2.drew w.heap.size A n nb := Bytes.keep HK.out.2.2.2.1 (fun p hp => World.cell?_of_block (hon12.block p.block (by have := HPP.out.2.2.1; omega) (fun hm => by have := hF2 _ hm; omega)))
  obtain ⟨A1, w3, r, hsl, hcp, ho3, hon3⟩ := copy_part (w := w2.drew) (a := a) (cs := c) (ho2'.drew) (by omega) hd2
  have hfin : DoesTo w1 g w.heap.size q (some (writeD q.v.dt a nb)) (.returned (.tuple #[])) w3 := by
    have hn := HK.out.2.2.2.2
    have e1 : (q.dt ++ List.replicate (an - q.dt.length) 0).take a ++ nb ++ (q.dt ++ List.replicate (an - q.dt.length) 0).drop (a + nb.length) = writeD q.dt a nb := by unfold writeD; rw [HAN.out, hn]
    rw [e1] at ho3
    have hl3 : (writeD q.dt a nb).length = L2 := by rw [writeD_len, hL2', hn]
    have hon3' : Only (rowOf (.slice D2 0 0)) w2 w3 := ⟨hon3.os, hon3.tape, hon3.output, hon3.size, hon3.block⟩
    have hsz := HA.out.2.2.2.2.2
    have hon13 : Only (g :: rowOf (.slice q.D 0 0)) w1 w3 := hon12.trans hon3' (fun k hk => by
      rcases hnew2 k hk with h | h
      · exact .inl (by simp only [List.mem_cons]; exact .inr h)
      · exact .inr (by omega))
    refine DoesTo.of (D' := D2) (bs := writeD q.dt a nb) (c' := c2) (th := true) HN.out HS.out HK.out.1 hon13 (by rw [hl3]; exact ho3) (fun b hb => ?_) (fun k hk => by
      rcases hnew2 k hk with h | h
      · exact .inl h
      · exact .inr (by omega)) (by rw [hl3, hL2']; have := HS.out.dt; omega) ?_ rfl (fun h => (by cases h))
    · have hR : ∀ b ∈ q.dt ++ List.replicate (a + nb.length - q.dt.length) 0, b < 256 := fun b hb => by
        rcases List.mem_append.1 hb with hb | hb
        · exact HN.out.ok b hb
        · have := (List.mem_replicate.1 hb).2; omega
      unfold writeD at hb
      rcases List.mem_append.1 hb with hb | hb
      · rcases List.mem_append.1 hb with hb | hb
        · exact hR b (List.mem_of_mem_take hb)
        · exact HK.out.2.2.2.1.2 b hb
      · exact hR b (List.mem_of_mem_drop hb)
    · rw [hl3]
      exact K2'.of (hon3'.block g K2'.lt (fun hm => by
        have hty : ∃ cs, Blk w2 g 5 cs := own_ty ho2' (by rw [row_slice _ L2 c2 0 0]; exact hm)
        obtain ⟨cs, hbb⟩ := hty
        exact hbb.ne_ K2' (by decide) rfl))
  have HFIN := Lib.hid hfin
  have HS3 : Hid (Blk w3 g 36 #[.bool true, .slice D2 L2 c2, .int .i64 q.sq, .slice q.C q.cl.length q.cc] ∧ Blk w3 pa 3 #[.int .i64 (a : Int)] ∧ Blk w3 pd 22 #[.slice A n c]) := Lib.hid (by
    have hon3' : Only (rowOf (.slice D2 0 0)) w2 w3 := ⟨hon3.os, hon3.tape, hon3.output, hon3.size, hon3.block⟩
    have hty : ∀ k ∈ rowOf (.slice D2 0 0), ∃ cs, Blk w2 k 5 cs := fun k hm => own_ty ho2' (by rw [row_slice _ L2 c2 0 0]; exact hm)
    refine ⟨K2'.only hon3' (fun hm => ?_), Ka2.only hon3' (fun hm => ?_), Kd2.only hon3' (fun hm => ?_)⟩
    · obtain ⟨cs, hbb⟩ := hty _ hm; exact hbb.ne_ K2' (by decide) rfl
    · obtain ⟨cs, hbb⟩ := hty _ hm; exact hbb.ne_ Ka2 (by decide) rfl
    · obtain ⟨cs, hbb⟩ := hty _ hm; exact hbb.ne_ Kd2 (by decide) rfl)
  have hC : ∀ w' : World, (Blk w' g 36 #[.bool true, .slice D2 L2 c2, .int .i64 q.sq, .slice q.C q.cl.length q.cc] ∧ Blk w' pa 3 #[.int .i64 (a : Int)] ∧ Blk w' pd 22 #[.slice A n c]) → w'.cell? ⟨g, 1, none⟩ = some (.slice D2 L2 c2) ∧ w'.cell? ⟨pa, 0, none⟩ = some (.int .i64 (a : Int)) ∧ w'.cell? ⟨pd, 0, none⟩ = some (.slice A n c) := fun w' h => ⟨h.1.cell 1, h.2.1.cell 0, h.2.2.cell 0⟩
  have HC := Lib.hid hC
  have hS7 : Blk w2.drew g 36 #[.bool true, .slice D2 L2 c2, .int .i64 q.sq, .slice q.C q.cl.length q.cc] ∧ Blk w2.drew pa 3 #[.int .i64 (a : Int)] ∧ Blk w2.drew pd 22 #[.slice A n c] := ⟨K2'.drew, Ka2.drew, Kd2.drew⟩
  have HL := Lib.hid hL2
  clear hfin hC K2 K2' ho2 ho2' Ka2 Kd2 hon12 hd2 ho3 hon3 hF2 hon2 hnew2 hL2' HGR hwr ca cd hL2
  go_upto_region 2 with (fail)
  refine any_beginL (fun w' => Blk w' g 36 #[.bool true, .slice D2 L2 c2, .int .i64 q.sq, .slice q.C q.cl.length q.cc] ∧ Blk w' pa 3 #[.int .i64 (a : Int)] ∧ Blk w' pd 22 #[.slice A n c]) 99 (by kernel_rfl) ?_
  refine S_take (i := 0) (v := .pointer (some ⟨g, 0, none⟩)) rfl (by kernel_rfl) (by kernel_rfl) (by kernel_rfl) (by kernel_rfl) (fun _ _ _ h => h) (Or.inl ⟨by rfl, fun w hw => by kernel_rfl⟩) hS7 ?_
  simp only [Act.put, List.getElem_toArray, List.getElem_cons_succ, List.getElem_cons_zero, List.setIfInBounds_toArray, List.set_cons_zero, List.set_cons_succ]
  refine S_take (i := 1) (v := .pointer (some ⟨g, 0, none⟩)) rfl (by kernel_rfl) (by kernel_rfl) (by kernel_rfl) (by kernel_rfl) (fun _ _ _ h => h) (Or.inl ⟨by rfl, fun w hw => by kernel_rfl⟩) hS7 ?_
  simp only [Act.put, List.getElem_toArray, List.getElem_cons_succ, List.getElem_cons_zero, List.setIfInBounds_toArray, List.set_cons_zero, List.set_cons_succ]
  refine S_take (i := 2) (v := .pointer (some ⟨g, 1, none⟩)) rfl (by kernel_rfl) (by kernel_rfl) (by kernel_rfl) (by kernel_rfl) (fun _ _ _ h => h) (Or.inl ⟨by rfl, fun w hw => by go_simp⟩) hS7 ?_
  simp only [Act.put, List.getElem_toArray, List.getElem_cons_succ, List.getElem_cons_zero, List.setIfInBounds_toArray, List.set_cons_zero, List.set_cons_succ]
  refine S_take (i := 3) (v := .slice D2 L2 c2) rfl (by kernel_rfl) (by kernel_rfl) (by kernel_rfl) (by kernel_rfl) (fun _ _ _ h => h) (Or.inl ⟨by rfl, fun w hw => by have q1 := (HC.out w hw).1; go_simp⟩) hS7 ?_
  simp only [Act.put, List.getElem_toArray, List.getElem_cons_succ, List.getElem_cons_zero, List.setIfInBounds_toArray, List.set_cons_zero, List.set_cons_succ]
  refine S_take (i := 4) (v := .int .i64 (a : Int)) rfl (by kernel_rfl) (by kernel_rfl) (by kernel_rfl) (by kernel_rfl) (fun _ _ _ h => h) (Or.inl ⟨by rfl, fun w hw => by have q1 := (HC.out w hw).2.1; go_simp⟩) hS7 ?_
  simp only [Act.put, List.getElem_toArray, List.getElem_cons_succ, List.getElem_cons_zero, List.setIfInBounds_toArray, List.set_cons_zero, List.set_cons_succ]
  refine S_take (i := 6) (v := .slice A n c) rfl (by kernel_rfl) (by kernel_rfl) (by kernel_rfl) (by kernel_rfl) (fun _ _ _ h => h) (Or.inl ⟨by rfl, fun w hw => by have q1 := (HC.out w hw).2.2; go_simp⟩) hS7 ?_
  simp only [Act.put, List.getElem_toArray, List.getElem_cons_succ, List.getElem_cons_zero, List.setIfInBounds_toArray, List.set_cons_zero, List.set_cons_succ]
  refine L_one (j := 5) (by kernel_rfl) rfl (by rfl) ?_
  simp only [Act.put, List.getElem_toArray, List.getElem_cons_succ, List.getElem_cons_zero, List.setIfInBounds_toArray, List.set_cons_zero, List.set_cons_succ]
  refine wp_ran (v := .slice A1 (L2 - a) (c2 - a)) (w' := w2.drew) (by go_simp) ⟨hS7, ?_⟩
  simp only [Act.put, List.getElem_toArray, List.getElem_cons_succ, List.getElem_cons_zero, List.setIfInBounds_toArray, List.set_cons_zero, List.set_cons_succ]
  refine L_one (j := 7) (by kernel_rfl) rfl (by rfl) ?_
  simp only [Act.put, List.getElem_toArray, List.getElem_cons_succ, List.getElem_cons_zero, List.setIfInBounds_toArray, List.set_cons_zero, List.set_cons_succ]
  refine wp_ran (v := .int .i64 r) (w' := w3) (by go_simp) ⟨HS3.out, ?_⟩
  simp only [Act.put, List.getElem_toArray, List.getElem_cons_succ, List.getElem_cons_zero, List.setIfInBounds_toArray, List.set_cons_zero, List.set_cons_succ]
  refine L_done (by kernel_rfl) ?_
  refine NoPanic.normal ?_
  clear hsl hcp hS7 HC
  go_wp2
  refine bodyPost_end (results_none rfl _ _ _) rfl ?_
  exact HFIN.out
end Go.Proofs.Ytjepfeagbiceoaa
