/-
  A store is put: its text. Conditions: the store lies where it is said to; the text is not too long.
-/
import Derived.Test.YtfbpfgbmlbkffaaGreatZi
import Derived.Test.YtfbpfgbmlbkffaaGreatSciC
namespace Go.Proofs.YtfbpfgbmlbkffaaGreat
open Go.RowKit Go.BigFrame
set_option linter.unusedSimpArgs false
set_option linter.unusedVariables false
set_option maxRecDepth 100000
def flB (bl : List Bool) : List Nat := bl.map fun f => if f then 1 else 0
def putK (M : Mod) (k : Key) : List Nat := match gget M.ob k with | some o => putO (keyL k) o | none => []
def putM (M : Mod) : List Nat := numB M.fl.length ++ (flB M.bl ++ (numB M.ob.length ++ (srt (M.ob.map (·.1))).flatMap (putK M)))
theorem run_index_eight {P : Program} (t e : TypeId) (cs : List Value) (j : Nat) (v : Value) (h : P.underlying t = some (.array 8 e)) (hi : (P.info? e).map (·.size) = some 1) (ha : ∀ w, (isAgg e).run P w = .ok false w) (hj : j < 8) (hv : cs[j]? = some v) (w : World) :
    (Instr.index t (.agg cs.toArray) (.int .i64 j)).run P w = .ok v w := by
  cases hq : P.info? e with
  | none => simp [hq] at hi
  | some i =>
    simp [hq] at hi
    have h6 : (j : Int) < 8 := by omega
    simp [Instr.index, run_underlying h, asIntOf, h6, hj, ha, Result.andThen, sizeOf, typeInfo, hq, hi, hv, go_sem]
theorem wpList_load_flags {ops : Array Oper} {rest : List Oper} {op : Oper} {a : Act} {w : World} {Q : Exit → Act → World → Prop} (hgd : op.guard = none) (x : Operand) (ho : op.op = .load 31 x)
    (p : Addr) (hx : a.eval x = .pointer (some p)) (cs : List Value) (hl : cs.length = 8) (hc : ∀ j v, cs[j]? = some v → w.cell? (p.add j) = some v)
    (h : wpList Tryz.prog ops Q rest (a.put op.dst (.agg cs.toArray)) w) : wpList Tryz.prog ops Q (op :: rest) a w :=
  wpList_plain hgd fun _ hK => by
    unfold Oper.wp execOp
    simp only [ho, hx, Instr.loadAt, Instr.sureAddr, Sem.run_bind, Sem.run_pure, Result.andThen_ok, run_loadVar_flags w p cs hl hc]
    exact hK _ _ h
theorem StAt.flags_at {w : World} {gs ms gp r c : Nat} {A : Option Addr} {bl fl : List Bool} {kv : KV} (h : StAt w gs ms gp r c A bl fl kv) : ∀ j v, (bl.map Value.bool)[j]? = some v → w.cell? ((⟨gs, 1, none⟩ : Addr).add j) = some v := fun j v hj => by
  have e : (⟨gs, 1, none⟩ : Addr).add j = ⟨gs, 1 + j, none⟩ := by simp [Addr.add]
  rw [e]
  rw [List.getElem?_map] at hj
  cases hb : bl[j]? with
  | none => rw [hb] at hj; cases hj
  | some b =>
    rw [hb] at hj
    simp at hj
    subst hj
    exact h.cb hb
set_option maxHeartbeats 16000000 in
theorem stput_p {w : World} {Z : List Nat} {gs ms gp r c n : Nat} {A : Option Addr} {M : Mod} {kv : KV} (h : StoreAt w Z gs ms gp r c A M kv) (hI : InvP n M) (hn : n ≤ 1000000) (hlen : (putM M).length ≤ 3000000) :
    Calls Tryz.prog 17 #[.pointer (some ⟨gs, 0, none⟩)] w fun e w' => ∃ v, e = .returned v ∧ Own w' w.heap.size v (putM M).length (putM M) ∧ Below w.heap.size w w' ∧ Small (putM M) := by
  have HL : Hid ((putM M).length = 8 + (M.bl.length + (8 + ((srt (M.ob.map (·.1))).flatMap (putK M)).length))) := Lib.hid (by unfold putM; simp only [List.length_append, numB_len, flB, List.length_map])
  have HH := Lib.hid (And.intro h (And.intro hI hlen))
  have hkl : kv.length = M.ob.length := h.obs.len
  have hfew := hI.few
  have HKV := Lib.hid hkl
  obtain ⟨g, hg⟩ : ∃ g, g = w.heap.size := ⟨_, rfl⟩
  obtain ⟨w1, hw1⟩ : ∃ w1, w1 = w.alloc (.cells #[.slice none 0 0] 104) := ⟨_, rfl⟩
  have hb1 : Below w.heap.size w w1 := by rw [hw1]; exact below_alloc_x _ _
  have K1 : Blk w1 g 104 #[.slice none 0 0] := by rw [hw1, hg]; exact Blk.new _ _ _
  have hW1 : Wr w1 w.heap.size [g] (some ⟨g, 0, none⟩) [] := .inr ⟨g, rfl, .slice none 0 0, by simp [rowOf, Value.ownBlock], K1, ⟨rfl, .inl ⟨rfl, rfl⟩⟩, by omega, fun b hb => by cases hb⟩
  have c9 := (h.st.below hb1).c9
  have HG := Lib.hid hg
  have HW1E := Lib.hid hw1
  have HS1 := Lib.hid (slen_any (h.st.below hb1).sp.blk)
  have HN1 := Lib.hid (wnum_any w1 w.heap.size [g] (some ⟨g, 0, none⟩) [] M.fl.length hW1 (by simp) hb1.size)
  have H1 := Lib.hid (And.intro hb1 hW1)
  have hk1 := K1.lt
  clear h hI hlen hkl hg hw1 hb1 K1 hW1
  go_enter Tryz.func17, Tryz.ntmps17
  go_wp2_with (first | rw [← HW1E.out, ← HG.out])
  refine HS1.out.mono ?_
  rintro e w' ⟨rfl, rfl⟩
  go_wp2_with fail
  refine HN1.out.mono ?_
  rintro e w2 ⟨rfl, hw2⟩
  obtain ⟨t2, ht2⟩ : ∃ t2, t2 = numB M.fl.length := ⟨_, rfl⟩
  have hw2' : WTo w1 w.heap.size [g] (some ⟨g, 0, none⟩) t2 w2 := by rw [ht2]; exact hw2
  have hl2 : t2.length = 8 := by rw [ht2, numB_len]
  have hb2 := WTo.bel H1.out.1 H1.out.2 hw2'
  have hfa := (HH.out.1.st.below hb2).flags_at
  have hbl : M.bl.length = 8 := HH.out.1.st.len
  have HBL := Lib.hid hbl
  obtain ⟨BV, hBV⟩ : ∃ BV, BV = M.bl.map Value.bool := ⟨_, rfl⟩
  rw [← hBV] at hfa
  have hBVl : BV.length = 8 := by rw [hBV, List.length_map]; exact hbl
  have HBV := Lib.hid (And.intro hBV hBVl)
  have H2 := Lib.hid (And.intro hw2' (And.intro hb2 (And.intro ht2 hl2)))
  clear hw2 hw2' hb2 ht2 hl2 HN1 HS1 c9 hk1 hbl hBV hBVl
  go_wp2_with (have _h := hfa; refine wpList_load_flags rfl (.tmp 21) rfl _ rfl BV HBV.out.2 hfa ?_; clear _h hfa)
  go_loopw [23] (fun iv wr => ∃ k : Nat, k ≤ 8 ∧ iv = .int .i64 k ∧ WTo w1 w.heap.size [g] (some ⟨g, 0, none⟩) (t2 ++ (flB M.bl).take k) wr) (fun iv _ => 8 - (intS iv).toNat)
  case atStart => exact ⟨0, by omega, rfl, by simpa using H2.out.1⟩
  case round =>
    obtain ⟨k, hk, rfl, hwt⟩ := hrel
    obtain ⟨wq, hwq⟩ : ∃ wq, wq = wr := ⟨_, rfl⟩
    subst hwq
    have hwk : IntKind.i64.wrap ((k : Int) + 1) = (k : Int) + 1 := by rw [IntKind.wrap_i64]; omega
    by_cases hlt : k < 8
    -- {F
    · obtain ⟨b, hb⟩ : ∃ b, M.bl[k]? = some b := ⟨_, List.getElem?_eq_getElem (by rw [HBL.out]; exact hlt)⟩
      have hix := run_index_eight (P := Tryz.prog) 31 4 BV k (.bool b) Tryz.underlying31 (by kernel_rfl) (fun w => by kernel_rfl) hlt (by rw [HBV.out.1, List.getElem?_map, hb]; rfl) wq
      have htk : (flB M.bl).take (k + 1) = (flB M.bl).take k ++ [if b then 1 else 0] := by
        unfold flB
        rw [List.take_add_one, List.getElem?_map, hb]
        rfl
      have hbq := WTo.bel H1.out.1 H1.out.2 hwt
      obtain ⟨F', hW', ho', hf'⟩ := hwt
      obtain ⟨tk, htk2⟩ : ∃ tk, tk = t2 ++ (flB M.bl).take k := ⟨_, rfl⟩
      rw [← htk2] at hW'
      have hl3 : tk.length ≤ 100 := by rw [htk2, List.length_append, H2.out.2.2.2, List.length_take]; omega
      have HT := Lib.hid (wflag_any wq w.heap.size F' (some ⟨g, 0, none⟩) tk b hW' (by omega) hbq.size)
      have HQ := Lib.hid (And.intro ho' (And.intro hf' (And.intro htk htk2)))
      clear hb htk hbq hW' ho' hf' htk2
      go_wp2_with fail
      refine HT.out.mono ?_
      rintro e w3 ⟨rfl, hw3⟩
      have hfin := WTo.after HQ.out.1 HQ.out.2.1 hw3
      have htx : plus (some ⟨g, 0, none⟩) tk [if b then 1 else 0] = t2 ++ (flB M.bl).take (k + 1) := by
        rw [HQ.out.2.2.1, HQ.out.2.2.2]
        show t2 ++ (flB M.bl).take k ++ _ = _
        rw [List.append_assoc]
      rw [htx] at hfin
      have HFIN := Lib.hid hfin
      clear hfin htx hw3 HT
      go_wp2_with fail
      go_roundw
      case rel => exact ⟨k + 1, by omega, by go_num, HFIN.out⟩
      case measure => simp [intS]; omega
    -- F}
    · obtain rfl : k = 8 := by omega
      have hfl8 : (flB M.bl).length = 8 := by unfold flB; rw [List.length_map]; exact HBL.out
      rw [List.take_of_length_le (by omega)] at hwt
      have hbq := WTo.bel H1.out.1 H1.out.2 hwt
      have c0 := (HH.out.1.st.below hbq).c0
      have hml : ∀ ty, (Builtin.len_ #[64] ty #[.map (some ms)]).run Tryz.prog wq = .ok (.int .i64 M.ob.length) wq := fun ty => by
        have := World.ownsMap.len (HH.out.1.st.below hbq).map.owns (t := 64) Tryz.underlying64 ty
        rw [size_enc, HKV.out] at this
        exact this
      obtain ⟨F3, hW3, ho3, hf3⟩ := hwt
      obtain ⟨t3, ht3⟩ : ∃ t3, t3 = t2 ++ flB M.bl := ⟨_, rfl⟩
      rw [← ht3] at hW3
      have hl3 : t3.length = 16 := by rw [ht3, List.length_append, H2.out.2.2.2, hfl8]
      have HT3 := Lib.hid (wnum_any wq w.heap.size F3 (some ⟨g, 0, none⟩) t3 M.ob.length hW3 (by omega) hbq.size)
      have H3 := Lib.hid (And.intro ho3 (And.intro hf3 (And.intro ht3 hl3)))
      clear hbq hW3 ho3 hf3 ht3 hl3 hfl8
      go_wp2_with fail
      refine HT3.out.mono ?_
      rintro e w4 ⟨rfl, hw4⟩
      obtain ⟨t4, ht4⟩ : ∃ t4, t4 = t3 ++ numB M.ob.length := ⟨_, rfl⟩
      have hw4' : WTo w1 w.heap.size [g] (some ⟨g, 0, none⟩) t4 w4 := by rw [ht4]; exact WTo.after H3.out.1 H3.out.2.1 hw4
      have hl4 : t4.length = 24 := by rw [ht4, List.length_append, numB_len, H3.out.2.2.2]
      have hb4 := WTo.bel H1.out.1 H1.out.2 hw4'
      have HN := Lib.hid (names_any (HH.out.1.below hb4).st (by rw [HKV.out]; omega))
      rw [show noS = { data := #[] } from by kernel_rfl] at HN
      have H4 := Lib.hid (And.intro hw4' (And.intro hb4 (And.intro ht4 hl4)))
      clear hw4 hw4' hb4 ht4 hl4 HT3 c0 hml
      go_wp2_with fail
      refine HN.out.mono ?_
      rintro e w5 ⟨vn, ns, rfl, hnp, hns, hrow, hb45⟩
      obtain ⟨An, cn, rfl, hcn, -⟩ := hrow.form
      obtain ⟨F4, hW4, ho4, hf4⟩ := H4.out.1
      have hnsq : ns = srt (M.ob.map (·.1)) := by
        rw [← HH.out.1.obs.keys ObjR.key]
        exact srt_eq hnp hns
      have hu4 := hW4.under
      have hW5 := hW4.below hb45
      have ho5 : Only [g] w1 w5 := ho4.trans (Only.of_below hb45 F4) hf4
      have hnl : ns.length ≤ 1000000 := by rw [hnp.length_eq, List.length_map, HKV.out]; omega
      have hl5 : t4.length + (ns.flatMap (putK M)).length ≤ 3000000 := by
        have h1 := HL.out
        have h2 := HH.out.2.2
        have h3 := HBL.out
        have h4 := H4.out.2.2.2
        rw [← hnsq] at h1
        omega
      have hs5 := hb45.size
      have H5 := Lib.hid (And.intro hW5 (And.intro ho5 (And.intro hf4 (And.intro hu4 (And.intro hrow (And.intro hnsq (And.intro hl5 hnp)))))))
      clear hW5 ho5 hf4 hu4 hrow hnsq hl5 hnp hns hW4 ho4 hb45 HN
      go_wp2_with fail
      go_loopw [40] (fun iv wr => ∃ k : Nat, k ≤ ns.length ∧ iv = .int .i64 k ∧ WTo w5 w.heap.size F4 (some ⟨g, 0, none⟩) (t4 ++ (ns.take k).flatMap (putK M)) wr) (fun iv _ => ns.length - (intS iv).toNat)
      case atStart => exact ⟨0, by omega, rfl, F4, by simpa using H5.out.1, Only.refl _ _, Fresh.refl _ _⟩
      case round =>
        obtain ⟨k, hk, rfl, F', hW', ho', hf'⟩ := hrel
        obtain ⟨wp, hwp⟩ : ∃ wp, wp = wr := ⟨_, rfl⟩
        subst hwp
        have hwk : IntKind.i64.wrap ((k : Int) + 1) = (k : Int) + 1 := by rw [IntKind.wrap_i64]; omega
        by_cases hlt : k < ns.length
        -- {N
        · obtain ⟨kq, hkq⟩ : ∃ kq, ns[k]? = some kq := ⟨_, List.getElem?_eq_getElem hlt⟩
          obtain ⟨o, nm, hgo, hknm, hname⟩ := key_there_p HH.out.2.1 HH.out.1.obs H5.out.2.2.2.2.2.2.2 (List.mem_of_getElem? hkq)
          have hnml : (keyL kq).length ≤ 32 := by
            rw [keyL_len, hknm, keyB_len]
            simp only [isNameB, Bool.and_eq_true, decide_eq_true_eq] at hname
            omega
          obtain ⟨hft, post, hfp⟩ := flat_take (putK M) hkq
          have hover := row_over H5.out.2.2.2.2.1
          have hrowq : NamR wp w4.heap.size (.slice An ns.length cn) ns := own_only H5.out.2.2.2.2.1 ho' (fun j hj hm => by have := hover j hj; have := H5.out.2.2.2.1 j hm; omega)
          obtain ⟨ad, u2, rfl, hab, hu2, hc2⟩ := hrowq.reads.at_ hlt
          have hu2' : u2 = .string (strOf (keyL kq)) := by
            rw [List.getElem?_map, hkq, Option.map_some] at hu2
            injection hu2 with hu2
            rw [← hu2, keyV_L]
          subst hu2'
          have hpk : putK M kq = putO (keyL kq) o := by unfold putK; rw [hgo]
          obtain ⟨tk, htk⟩ : ∃ tk, tk = t4 ++ (ns.take k).flatMap (putK M) := ⟨_, rfl⟩
          rw [← htk] at hW'
          have hlk : tk.length + (putO (keyL kq) o).length ≤ 4000000 := by
            have h1 := H5.out.2.2.2.2.2.2.1
            rw [hfp, hpk] at h1
            rw [htk]
            simp only [List.length_append] at h1 ⊢
            omega
          have hwt0 : WTo w1 w.heap.size [g] (some ⟨g, 0, none⟩) tk wp := WTo.after H5.out.2.1 H5.out.2.2.1 ⟨F', hW', ho', hf'⟩
          have hbp := WTo.bel H1.out.1 H1.out.2 hwt0
          obtain ⟨ha1, ha2, ha3⟩ := ob_small_p HH.out.2.1 hgo hn
          have hod := (HH.out.2.1.obs _ (gget_some hgo)).d
          have HP := Lib.hid (put_obj HH.out.1 hbp hW' (keyL kq) (keyL_small kq) (by omega) (o := o) (by rw [keyL_key]; exact hgo) hod ha1 ha2 ha3 hlk)
          have HQ := Lib.hid (And.intro ho' (And.intro hf' (And.intro hft (And.intro hpk htk))))
          clear hkq hgo hknm hname hnml hft hfp hover hrowq hu2 hpk hlk hwt0 hbp ha1 ha2 ha3 hod hW' ho' hf' htk
          go_wp2_with fail
          refine HP.out.mono ?_
          rintro e w6 ⟨rfl, hw6⟩
          have hfin := WTo.after HQ.out.1 HQ.out.2.1 hw6
          have htx : tk ++ putO (keyL kq) o = t4 ++ (ns.take (k + 1)).flatMap (putK M) := by
            rw [HQ.out.2.2.1, HQ.out.2.2.2.1, HQ.out.2.2.2.2, List.append_assoc]
          rw [htx] at hfin
          have HFIN := Lib.hid hfin
          clear hfin htx hw6 HP
          go_wp2_with fail
          go_roundw
          case rel => exact ⟨k + 1, by omega, by go_num, HFIN.out⟩
          case measure => simp [intS]; omega
        -- N}
        · obtain rfl : k = ns.length := by omega
          have hwt0 := WTo.after H5.out.2.1 H5.out.2.2.1 ⟨F', hW', ho', hf'⟩
          have hbp := WTo.bel H1.out.1 H1.out.2 hwt0
          rw [List.take_length] at hW'
          have htx : t4 ++ ns.flatMap (putK M) = putM M := by
            rw [H4.out.2.2.1, H3.out.2.2.1, H2.out.2.2.1, H5.out.2.2.2.2.2.1]
            unfold putM
            simp
          rw [htx] at hW'
          have hsmall : Small (putM M) := by
            rcases hW' with ⟨e, _⟩ | ⟨_, _, _, _, _, _, _, h⟩
            · cases e
            · exact h
          have HSM := Lib.hid hsmall
          have HO := Lib.hid (out_any wp w.heap.size F' (some ⟨g, 0, none⟩) (putM M) hW' (by have := HH.out.2.2; omega))
          have HBP := Lib.hid hbp
          clear hwt0 hbp hW' ho' hf' htx hsmall
          go_wp2_with fail
          refine HO.out.mono ?_
          rintro e w7 ⟨v, rfl, hov, hb7⟩
          have HV := Lib.hid (And.intro hov hb7)
          clear hov hb7 HO
          go_wp2
          go_ret
          exact ⟨v, rfl, row_weaken HV.out.1 HBP.out.size, HBP.out.trans (HV.out.2.mono HBP.out.size), HSM.out⟩
theorem stput_any {w : World} {Z : List Nat} {gs ms gp r c n : Nat} {A : Option Addr} {M : Mod} {kv : KV} (h : StoreAt w Z gs ms gp r c A M kv) (hI : Inv n M) (hn : n ≤ 1000000) (hlen : (putM M).length ≤ 3000000) :
    Calls Tryz.prog 17 #[.pointer (some ⟨gs, 0, none⟩)] w fun e w' => ∃ v, e = .returned v ∧ Own w' w.heap.size v (putM M).length (putM M) ∧ Below w.heap.size w w' ∧ Small (putM M) := stput_p h hI.p hn hlen
end Go.Proofs.YtfbpfgbmlbkffaaGreat
