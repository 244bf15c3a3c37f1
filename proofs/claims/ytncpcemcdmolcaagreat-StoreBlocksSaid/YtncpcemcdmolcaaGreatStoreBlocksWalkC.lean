/-
  The walk of the law StoreBlocks. Conditions: the script reads as it is said to.
-/
import Derived.Test.YtncpcemcdmolcaaGreatZi
namespace Go.Proofs.YtncpcemcdmolcaaGreat
open Go.RowKit Go.BigFrame
set_option linter.unusedSimpArgs false
set_option linter.unusedVariables false
set_option maxRecDepth 100000
theorem extE_get {W : World} {B c : Nat} {E : Option Addr} {es : List (Nat × Nat)} (h : OwnE W B (.slice E es.length c) (natE es)) {p : Nat} {e : Nat × Nat} (hp : es[p]? = some e) : ∃ ad, E = some ad ∧ ad.block < W.heap.size ∧ W.cell? (ad.add (p * 2)) = some (.int .i64 (e.1 : Int)) ∧ W.cell? ((ad.add (p * 2)).add 1) = some (.int .i64 (e.2 : Int)) := by
  have hl := (List.getElem?_eq_some_iff.1 hp).1
  have hE : ExtR W W.heap.size E (natE es) := OwnE.ext (by rw [natE_len]; exact h)
  obtain ⟨ad, q, e1, hb, he, c0, c1⟩ := hE.get (k := p) (by rw [natE_len]; exact hl)
  simp only [natE, List.getElem?_map, hp, Option.map_some] at he
  injection he with he
  subst he
  exact ⟨ad, e1, hb, c0, c1⟩
set_option maxHeartbeats 16000000 in
theorem storeBlocks_walk {w : World} (x : Int) (hx1 : -9223372036854775808 ≤ x) (hx2 : x ≤ 9223372036854775807) (As : Option Addr) (cs : Nat) (os : List OpV) (hm : os.length ≤ cs ∧ cs ≤ 9223372036854775807) (hR : OpsR w As os) :
    Calls Tryz.prog 6 #[.int .i64 x, .slice As os.length cs] w fun e w' => e = .returned (.bool true) ∧ Below w.heap.size w w' := by
  have HR := Lib.hid hR
  clear hR
  obtain ⟨m, hm1, hmx⟩ := modq x 100 (by omega) (by omega)
  have hmx' : IntKind.i64.wrap ((IntKind.u64.wrap x).tmod 100) = (m : Int) := hmx
  clear hmx
  go_enter Tryz.func6, Tryz.ntmps6
  go_wp2_with fail
  refine (alive_any w).mono ?_
  rintro e w1 ⟨rfl, hb1⟩
  have HB1 := Lib.hid hb1
  have HLG := Lib.hid (large_any (c := cs) (HR.out.since hb1) hm.1 (by omega))
  clear hb1
  go_wp2_with fail
  refine HLG.out.mono ?_
  rintro e w2 ⟨rfl | ⟨rfl, hos, hes⟩, hb2⟩
  · have HB2 := Lib.hid (HB1.out.trans (hb2.mono HB1.out.size))
    clear hb2 HLG
    go_wp2
    go_ret
    exact ⟨rfl, HB2.out⟩
  have HB2 := Lib.hid (HB1.out.trans (hb2.mono HB1.out.size))
  have HES := Lib.hid hes
  clear hb2 HLG HB1 hes
  have HN := Lib.hid (stnew_any m (by omega) w2)
  go_wp2_with fail
  refine HN.out.mono ?_
  rintro e w3 ⟨p, rfl, hnew⟩
  obtain ⟨gs, ms, gp, r, c, A, rfl, hS⟩ := Sto.new (by omega) HB2.out hnew
  have HS3 := Lib.hid hS
  clear hS hnew HN hmx'
  have hmf := make_flags m (by omega)
  go_wp2_with fail
  go_loopw [34] (fun i wr => ∃ (k : Nat) (M : Mod) (kv : KV), k ≤ os.length ∧ i = .int .i64 k ∧ Sto (16 * k) w wr gs ms gp r c A M kv ∧ M.fl.length = m) (fun i _ => os.length - (intS i).toNat)
  case atStart => exact ⟨0, _, _, by omega, rfl, HS3.out, by simp [M0]⟩
  case round =>
    obtain ⟨k, M, kv, hk, rfl, hS, hfl⟩ := hrel
    obtain ⟨wo, hwo⟩ : ∃ wo, wo = wr := ⟨_, rfl⟩
    subst hwo
    clear HS3
    have HS := Lib.hid hS
    have HFL := Lib.hid hfl
    clear hS hfl
    have hwk : IntKind.i64.wrap ((k : Int) + 1) = (k : Int) + 1 := by rw [IntKind.wrap_i64]; omega
    by_cases hlt : k < os.length
    -- {R
    · obtain ⟨o, ho⟩ : ∃ o, os[k]? = some o := ⟨_, List.getElem?_eq_getElem hlt⟩
      have hRo := HR.out.since HS.out.bel
      obtain ⟨ad, rfl, hl, hc⟩ := hRo.get ho
      have hok := hRo.ok o (List.mem_of_getElem? ho)
      have hob := HES.out o (List.mem_of_getElem? ho)
      have hbA : Below wo.heap.size wo (wo.alloc (.cells #[.string (strOf o.nm), .slice o.A o.l.length o.c, .int .i64 o.blk] 49)) := (Below.refl _ _).alloc (Nat.le_refl _) _
      have HSA := Lib.hid (HS.out.below hbA)
      have hsl : o.l.length ≤ o.c := hok.cap
      have HD := Lib.hid (HSA.out.do_ (by omega) o.nm hok.nm (by have := hob.2.1; omega) (cs := o.c) ((hok.steps.tame hob.2.2).since hbA) hbA.size hsl (by have := hob.1; omega))
      clear ho hRo hok hob hbA
      go_wp2_with (have _h := hc; refine wpList_load_op rfl (.tmp 36) rfl _ rfl o hc ?_; clear _h hc)
      refine HD.out.mono ?_
      rintro e w4 hd
      obtain ⟨M4, n4, told4, v4, kv4, hr4, rfl, ht4, hS4, hf4, hb4, hon4⟩ := HSA.out.did hd
      have HS4 := Lib.hid hS4
      have hfl4 : M4.fl.length = m := hf4.trans HFL.out
      have HFL4 := Lib.hid hfl4
      clear hd hr4 ht4 hS4 hf4 hb4 hon4 hfl4 HD HSA
      go_wp2_with fail
      have hbO : Below w4.heap.size w4 (w4.alloc (.cells (flagsN m) 4)) := (Below.refl _ _).alloc (Nat.le_refl _) _
      have KO := Blk.new w4 4 (flagsN m)
      have HNM := Lib.hid (names_any (HS4.out.below hbO).at_.st (by rw [HS4.out.at_.obs.len]; have := HS4.out.inv.few; omega))
      rw [show noS = { data := #[] } from by kernel_rfl] at HNM
      refine HNM.out.mono ?_
      rintro e w5 ⟨vn, ns, rfl, hnp, hns, hrow, hb5⟩
      obtain ⟨An, cn, rfl, hcn, hnov⟩ := hrow.form
      have hb45 : Below w4.heap.size w4 w5 := hbO.trans (hb5.mono hbO.size)
      have hnp' : ns.Perm (M4.ob.map (·.1)) := by rw [← HS4.out.at_.obs.keys ObjR.key]; exact hnp
      have HG := Lib.hid (names_good HS4.out.inv hnp')
      have HNP := Lib.hid hnp'
      have HROW := Lib.hid hrow
      have K5 : Own2 w5 w4.heap.size m (List.replicate m false) (fun _ => False) := ⟨KO.of (hb5.block _ KO.lt), by simp, fun j hj => by simp [List.getElem?_replicate, hj]⟩
      have HK5 := Lib.hid K5
      have HB45 := Lib.hid hb45
      have hnl : ns.length ≤ 1000000 := by
        rw [hnp'.length_eq, List.length_map]
        have := HS4.out.inv.few
        omega
      obtain ⟨go, hgo⟩ : ∃ go, go = w4.heap.size := ⟨_, rfl⟩
      have HGO := Lib.hid hgo
      clear hbO KO HNM hnp hns hrow hb5 hb45 hnp' K5 hnov
      rw [← hgo] at HK5 ⊢
      clear hgo
      have hgl5 : go < w5.heap.size := HK5.out.blk.lt
      have hodw : ∀ (e : TypeId), e ≠ 4 → ∀ k ∈ [go], Odd w5 e k := fun e hq k hk => by simp at hk; subst hk; exact Odd.blk HK5.out.blk hq.symm
      have HOD := Lib.hid hodw
      have hB4 : ∀ W, Only [go] w5 W → Below w4.heap.size w4 W := fun W ho => HB45.out.trans (ho.below (fun k hk => by simp at hk; have := HGO.out; omega) HB45.out.size)
      have HB4 := Lib.hid hB4
      clear hodw hB4
      go_wp2_with fail
      go_loopw [10, 52] (fun uv iv wr => ∃ (q u : Nat) (ow : List Bool), q ≤ ns.length ∧ uv = .int .i64 u ∧ iv = .int .i64 q ∧ u = lens ((ns.take q).flatMap (extOf M4)) ∧ Own2 wr go m ow (Cov ((ns.take q).flatMap (extOf M4))) ∧ Only [go] w5 wr) (fun _ iv _ => ns.length - (intS iv).toNat)
      case atStart => exact ⟨0, 0, _, by omega, rfl, rfl, by simp [lens], HK5.out.cong (fun j => by simp [Cov]), Only.refl _ _⟩
      case round =>
        obtain ⟨q, u, ow, hq, rfl, rfl, hu, hown, hon⟩ := hrel
        obtain ⟨wq, hwq⟩ : ∃ wq, wq = wr := ⟨_, rfl⟩
        subst hwq
        have HU := Lib.hid hu
        have HQ := Lib.hid (And.intro hown hon)
        have hwq1 : IntKind.i64.wrap ((q : Int) + 1) = (q : Int) + 1 := by rw [IntKind.wrap_i64]; omega
        have hSq := HS4.out.below (HB4.out _ hon)
        have HSq := Lib.hid hSq
        have htot : lens (ns.flatMap (extOf M4)) ≤ m := by have := good_cnt HG.out; have := HFL4.out; omega
        have hgq : go < wq.heap.size := hown.blk.lt
        clear hu hown hon hSq HK5 hgl5
        by_cases hltq : q < ns.length
        -- {Q
        · obtain ⟨kq, hkq⟩ : ∃ kq, ns[q]? = some kq := ⟨_, List.getElem?_eq_getElem hltq⟩
          obtain ⟨ob, hgo, hoo, hex, hkl⟩ := names_at HS4.out.inv HNP.out hkq
          obtain ⟨hft, post, hfp⟩ := flat_take (extOf M4) hkq
          rw [hex] at hft hfp
          have hrow : NamR wq _ (.slice An ns.length cn) ns := own_odd HROW.out HQ.out.2 (HOD.out _ (by decide))
          obtain ⟨ad2, u2, rfl, hab2, hu2, hc2⟩ := hrow.reads.at_ hltq
          have hu2' : u2 = keyV kq := by
            rw [List.getElem?_map, hkq, Option.map_some] at hu2
            injection hu2 with hu2
            exact hu2.symm
          subst hu2'
          have HFT := Lib.hid (And.intro hft hfp)
          have HOO := Lib.hid (And.intro hgo hoo)
          have hgood := HG.out
          rw [hfp] at hgood
          have HGD := Lib.hid hgood
          have hle : lens ((ns.take q).flatMap (extOf M4)) + lens ob.e ≤ m := by
            have := htot
            rw [hfp, lens_app, lens_app] at this
            omega
          have hpe : ∀ e ∈ ob.e, 1 ≤ e.2 := fun e he => hgood.pos e (by simp [he])
          have hel := len_lens hpe
          have HXT := Lib.hid (HSq.out.at_.extents (keyL kq) (by rw [keyL_len]; omega) (o := ob) (by rw [keyL_key]; exact hgo) (by omega))
          rw [← keyL_val] at HXT
          have HUL : Hid (u + lens ob.e ≤ m) := Lib.hid (by rw [HU.out]; exact hle)
          clear hgo hoo hex hft hfp hrow hu2 hkq hgood hpe
          go_wp2_with fail
          refine HXT.out.mono ?_
          rintro e wE ⟨E, cE, rfl, hE, hbE⟩
          have HE := Lib.hid hE
          have HBE := Lib.hid hbE
          have hownE := HQ.out.1.below hbE
          have HOE := Lib.hid hownE
          have HODE : Hid (∀ (e : TypeId), e ≠ 4 → ∀ k ∈ [go], Odd wE e k) := Lib.hid fun e hq k hk => by simp at hk; subst hk; exact Odd.blk hownE.blk hq.symm
          clear hE hbE hownE HXT
          go_wp2_with fail
          go_loopw [13, 60] (fun hv iv wr => ∃ (p h1 : Nat) (ow : List Bool), p ≤ ob.e.length ∧ hv = .int .i64 h1 ∧ iv = .int .i64 p ∧ h1 = lens (ob.e.take p) ∧ Own2 wr go m ow (Cov ((ns.take q).flatMap (extOf M4) ++ ob.e.take p)) ∧ Only [go] wE wr) (fun _ iv _ => ob.e.length - (intS iv).toNat)
          case atStart => exact ⟨0, 0, _, by omega, rfl, rfl, by simp [lens], HOE.out.cong (fun j => by simp), Only.refl _ _⟩
          case round =>
            obtain ⟨p, h1, ow3, hp, rfl, rfl, hh1, hown3, hon3⟩ := hrel
            obtain ⟨wp, hwp⟩ : ∃ wp, wp = wr := ⟨_, rfl⟩
            subst hwp
            have HH1 := Lib.hid hh1
            have H3 := Lib.hid (And.intro hown3 hon3)
            have hwp1 : IntKind.i64.wrap ((p : Int) + 1) = (p : Int) + 1 := by rw [IntKind.wrap_i64]; omega
            have hgp3 : go < wp.heap.size := hown3.blk.lt
            clear hh1 hown3 hon3
            by_cases hltp : p < ob.e.length
            -- {P
            · obtain ⟨ex, ey, hpe⟩ : ∃ ex ey, ob.e[p]? = some (ex, ey) := ⟨_, _, List.getElem?_eq_getElem hltp⟩
              obtain ⟨ad3, rfl, hab3, a0, a1⟩ := extE_get (own_odd HE.out H3.out.2 (HODE.out _ (by decide))) hpe
              have htk : ob.e.take (p + 1) = ob.e.take p ++ [(ex, ey)] := by rw [List.take_add_one, hpe]; rfl
              have HTK := Lib.hid htk
              have hsplit : (ns.take q).flatMap (extOf M4) ++ ob.e ++ post = ((ns.take q).flatMap (extOf M4) ++ ob.e.take p) ++ (ex, ey) :: (ob.e.drop (p + 1) ++ post) := by
                conv => lhs; rw [← List.take_append_drop p ob.e, List.drop_eq_getElem_cons hltp]
                have : ob.e[p] = (ex, ey) := (List.getElem?_eq_some_iff.1 hpe).2
                rw [this]
                simp
              have hgd2 := HGD.out
              rw [hsplit] at hgd2
              have HGD2 := Lib.hid hgd2
              obtain ⟨z, hz⟩ : ∃ z, z = ex + ey := ⟨_, rfl⟩
              have hin := hgd2.inn (ex, ey) (by simp)
              have hpos := hgd2.pos (ex, ey) (by simp)
              have hzm : z ≤ m := by have := HFL4.out; simp only at hin; omega
              have hwz : IntKind.i64.wrap ((ex : Int) + (ey : Int)) = (z : Int) := by rw [IntKind.wrap_i64]; omega
              have hlp : lens (ob.e.take (p + 1)) = h1 + ey := by rw [htk, lens_app, HH1.out]; simp [lens]
              have hlq : lens (ob.e.take (p + 1)) ≤ lens ob.e := by
                conv => rhs; rw [← List.take_append_drop (p + 1) ob.e]
                rw [lens_app]; omega
              have HLP := Lib.hid hlp
              have hh1m : h1 + ey ≤ m := by have := HUL.out; omega
              have HZ := Lib.hid hz
              have hexz : ex ≤ z := by omega
              have hbB : Below wp.heap.size wp (wp.alloc (.cells #[.int .i64 (ex : Int), .int .i64 (ey : Int)] 64)) := (Below.refl _ _).alloc (Nat.le_refl _) _
              have KB := Blk.new wp 64 #[.int .i64 (ex : Int), .int .i64 (ey : Int)]
              obtain ⟨wB, hwB⟩ : ∃ wB, wB = wp.alloc (.cells #[.int .i64 (ex : Int), .int .i64 (ey : Int)] 64) := ⟨_, rfl⟩
              rw [← hwB] at hbB KB
              have HWB := Lib.hid hwB
              have HKB := Lib.hid (And.intro KB hbB)
              have HOB := Lib.hid (H3.out.1.below hbB)
              obtain ⟨gb, hgb⟩ : ∃ gb, gb = wp.heap.size := ⟨_, rfl⟩
              have HGB := Lib.hid hgb
              clear hpe htk hsplit hgd2 hin hpos hlp hlq hz hwB KB hbB hgb
              go_wp2_with (have _h := a0; refine wpList_load_ext rfl (.tmp 62) rfl _ rfl (((ex : Int), (ey : Int))) a0 a1 ?_; clear _h a0 a1)
              rw [← HWB.out]
              rw [← HGB.out] at HKB ⊢
              go_loopw [13, 16] (fun hv iv wr => ∃ (v hh : Nat) (ow : List Bool), ex ≤ v ∧ v ≤ z ∧ hv = .int .i64 hh ∧ iv = .int .i64 v ∧ hh + ex = h1 + v ∧ Own2 wr go m ow (fun j => Cov ((ns.take q).flatMap (extOf M4) ++ ob.e.take p) j ∨ (ex ≤ j ∧ j < v)) ∧ Only [go] wB wr) (fun _ iv _ => z - (intS iv).toNat)
              case atStart => exact ⟨ex, h1, _, by omega, hexz, rfl, rfl, rfl, HOB.out.cong (fun j => ⟨fun h => .inl h, fun h => h.resolve_right (by omega)⟩), Only.refl _ _⟩
              case round =>
                obtain ⟨v, hh, ow4, hv1, hv2, rfl, rfl, hhv, hown4, hon4⟩ := hrel
                have hne : gb ≠ go := by have := HGB.out; omega
                have KB4 := HKB.out.1.of (hon4.block gb HKB.out.1.lt (by simpa using hne))
                have b0 : wr.cell? ⟨gb, 0, none⟩ = some (.int .i64 (ex : Int)) := KB4.cell 0
                have b1 : wr.cell? ⟨gb, 1, none⟩ = some (.int .i64 (ey : Int)) := KB4.cell 1
                have hwv : IntKind.i64.wrap ((v : Int) + 1) = (v : Int) + 1 := by rw [IntKind.wrap_i64]; omega
                have hwh : IntKind.i64.wrap ((hh : Int) + 1) = (hh : Int) + 1 := by have := HZ.out; rw [IntKind.wrap_i64]; omega
                by_cases hltv : v < z
                · have hfree := HGD2.out.next (j := v) hv1 (by have := HZ.out; omega)
                  have hcell := hown4.at_ (v := v) (by omega) (fun h => h.elim hfree.1 (by omega))
                  have hfz := hown4.blk.frozen v
                  have H4 := Lib.hid (And.intro hown4 hon4)
                  have hd1 : decide ((v : Int) < (z : Int)) = true := decide_eq_true (by omega)
                  have hd2 : decide ((v : Int) < 0) = false := decide_eq_false (by omega)
                  have hd3 : decide ((m : Int) ≤ (v : Int)) = false := decide_eq_false (by omega)
                  have hvm : v < m := by omega
                  clear hown4 hon4 hfree KB4
                  go_wp2_with fail
                  go_roundw
                  case rel => exact ⟨v + 1, hh + 1, _, by omega, by omega, by go_num, by go_num, by omega, (H4.out.1.set hvm).cong (fun j => ⟨fun h => by
                    rcases h with (h | h) | h
                    · exact .inl h
                    · exact .inr ⟨h.1, by omega⟩
                    · exact .inr ⟨by omega, by omega⟩, fun h => by
                    rcases h with h | h
                    · exact .inl (.inl h)
                    · by_cases hj : j = v
                      · exact .inr hj
                      · exact .inl (.inr ⟨h.1, by omega⟩)⟩), H4.out.2.setCell (.inl (by simp)) _⟩
                  case measure => simp [intS]; omega
                · obtain rfl : v = z := by omega
                  have H4 := Lib.hid (And.intro hown4 (And.intro hon4 hhv))
                  have hd1 : decide ((v : Int) < (v : Int)) = false := decide_eq_false (by omega)
                  clear hown4 hon4 KB4 hhv
                  go_wp2_with fail
                  go_roundw
                  case rel =>
                    refine ⟨p + 1, hh, _, by omega, rfl, by go_num, ?_, H4.out.1.cong (fun j => ?_), ?_⟩
                    · have := HLP.out
                      have := H4.out.2.2
                      have := HZ.out
                      omega
                    · rw [HTK.out, ← List.append_assoc, Cov.app (a := _ ++ _) (b := [(ex, ey)])]
                      have hz := HZ.out
                      constructor
                      · rintro (h | h)
                        · exact .inl h
                        · exact .inr ⟨(ex, ey), by simp, h.1, by simp only; omega⟩
                      · rintro (h | ⟨e, he, h1, h2⟩)
                        · exact .inl h
                        · simp at he; subst he; exact .inr ⟨h1, by simp only at h2; omega⟩
                    · exact (H3.out.2.trans (Only.of_below (by have hkb := HKB.out.2; rw [HGB.out] at hkb; exact hkb) [go]) (Fresh.refl _ _)).trans H4.out.2.1 (Fresh.refl _ _)
                  case measure => simp [intS]; omega
            -- P}
            · obtain rfl : p = ob.e.length := by omega
              have hbp : Below w4.heap.size w4 wp := by
                have h1 := HB4.out _ HQ.out.2
                have h2 := h1.trans (HBE.out.mono h1.size)
                exact h2.trans (H3.out.2.below (fun k hk => by simp at hk; have := HGO.out; omega) h2.size)
              have HSZ := Lib.hid ((HS4.out.below hbp).at_.size_some (keyL kq) (by rw [keyL_len]; omega) (o := ob) (by rw [keyL_key]; exact HOO.out.1))
              rw [← keyL_val] at HSZ
              have hdl := HOO.out.2.d
              have hee := HOO.out.2.e
              have hh1 := HH1.out
              rw [List.take_length] at hh1
              have hnn : h1 = needsB ob.d := by rw [hh1, hee]
              have hnb : needsB ob.d = (ob.d.length + 15) / 16 := rfl
              have hul := HUL.out
              have hw1 : IntKind.i64.wrap ((ob.d.length : Int) + 15) = (ob.d.length : Int) + 15 := by rw [IntKind.wrap_i64]; omega
              have hw3 : IntKind.i64.wrap (((ob.d.length : Int) + 15).tdiv 16) = (h1 : Int) := by
                rw [Int.tdiv_eq_ediv_of_nonneg (by omega), IntKind.wrap_i64, hnn, hnb]
                omega
              have hw4 : IntKind.i64.wrap ((u : Int) + (h1 : Int)) = ((u : Int) + (h1 : Int)) := by rw [IntKind.wrap_i64]; omega
              have HUH := Lib.hid (And.intro hh1 hul)
              obtain ⟨dl, hdle⟩ : ∃ dl, dl = ob.d.length := ⟨_, rfl⟩
              rw [← hdle] at hw1 hw3 HSZ
              clear hbp hdl hee hh1 hnn hnb hul hdle
              go_wp2_with fail
              refine HSZ.out.mono ?_
              rintro e w' ⟨rfl, rfl⟩
              go_wp2_with fail
              go_roundw
              case rel =>
                refine ⟨q + 1, u + h1, ow3, by omega, by go_num, by go_num, ?_, ?_, ?_⟩
                · have h1 := HUH.out.1
                  rw [HFT.out.1, lens_app, ← HU.out, h1]
                · have h2 := H3.out.1
                  rw [List.take_length, ← HFT.out.1] at h2
                  exact h2
                · exact (HQ.out.2.trans (Only.of_below HBE.out [go]) (Fresh.refl _ _)).trans H3.out.2 (Fresh.refl _ _)
              case measure => simp [intS]; omega
        -- Q}
        · obtain rfl : q = ns.length := by omega
          have hcn := good_cnt HG.out
          have hu := HU.out
          rw [List.take_length] at hu
          have hfm := HFL4.out
          have HFR := Lib.hid (stfree_any HSq.out.at_.st)
          have hw5 : IntKind.i64.wrap ((m : Int) - (u : Int)) = (cnt M4.fl : Int) := by rw [IntKind.wrap_i64]; omega
          obtain ⟨cf, hcf⟩ : ∃ cf, cf = cnt M4.fl := ⟨_, rfl⟩
          rw [← hcf] at HFR hw5
          clear hcn hu hfm hcf
          go_wp2_with fail
          refine HFR.out.mono ?_
          rintro e w' ⟨rfl, rfl⟩
          go_wp2_with fail
          go_roundw
          case rel => exact ⟨k + 1, M4, kv4, by omega, by go_num, HSq.out, HFL4.out⟩
          case measure => simp [intS]; omega
    -- R}
    · obtain rfl : k = os.length := by omega
      go_wp2
      go_ret
      exact ⟨rfl, HS.out.bel⟩
end Go.Proofs.YtncpcemcdmolcaaGreat
