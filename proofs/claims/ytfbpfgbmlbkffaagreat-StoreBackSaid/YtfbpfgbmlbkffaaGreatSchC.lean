/-
  An object's attributes, with their bytes. Conditions: the store lies where it is said to.
-/
import Derived.Test.YtfbpfgbmlbkffaaGreatZi
import Derived.Test.YtfbpfgbmlbkffaaGreatScgC
import Derived.Test.YtfbpfgbmlbkffaaGreatWrsC
namespace Go.Proofs.YtfbpfgbmlbkffaaGreat
open Go.RowKit Go.BigFrame Go.Shelf Go.Sort Go.Maps Go.WideElems
set_option linter.unusedSimpArgs false
set_option linter.unusedVariables false
set_option maxRecDepth 100000
/-- keys in their order -/
def srt (l : List Key) : List Key := l.mergeSort leB
theorem srt_eq {ns l : List Key} (hp : ns.Perm l) (hs : ns.Pairwise (fun x y => leB x y = true)) : ns = srt l := by
  have h2 : (srt l).Pairwise (fun x y => leB x y = true) := List.pairwise_mergeSort (fun a b c h1 h2 => by simp only [leB, decide_eq_true_eq] at *; exact List.le_trans h1 h2) (fun a b => by simp only [leB, Bool.or_eq_true, decide_eq_true_eq]; exact List.le_total a b) _
  exact List.Perm.eq_of_pairwise (le := fun x y => leB x y = true) (fun a b _ _ h1 h2 => by
    simp only [leB, decide_eq_true_eq] at h1 h2
    exact List.le_antisymm h1 h2) hs h2 (hp.trans (List.mergeSort_perm _ _).symm)
theorem srt_len (l : List Key) : (srt l).length = l.length := List.length_mergeSort _
theorem srt_mem {l : List Key} {k : Key} : k ∈ srt l ↔ k ∈ l := (List.mergeSort_perm _ _).mem_iff
def atC (p : Key × Value) : List Value := [keyV p.1, p.2]
theorem atC_len (p : Key × Value) : (atC p).length = 2 := rfl
def atR (w : World) (B : Nat) (p : Key × Value) (q : Key × List Nat) : Prop := p.1 = q.1 ∧ RowR w B [] p.2 q.2
def atL (a : AL) (l : List Key) : AL := l.map fun k => (k, (gget a k).getD [])
/-- what Attrs hands back -/
def AttrsTo (w : World) (a : AL) (e : Ending) (w' : World) : Prop := ∃ A2 c2 l, e = .returned (.slice A2 a.length c2) ∧ w'.ownsRow w.heap.size 78 2 (.slice A2 a.length c2) a.length (l.flatMap atC) ∧ Rel2 (atR w' w.heap.size) l (atL a (srt (a.map (·.1)))) ∧ Below w.heap.size w w'
theorem sorted_akeys2 {b : Nat} {l : KV} (w : World) (h : SMap Tryz.prog 9 w b l) (hl : l.length ≤ 1000000) :
    Calls Tryz.prog 69 #[.func (.func 95) #[] #[.pointer (some ⟨w.heap.size, 0, none⟩)]] (w.alloc (.cells #[.map (some b)] 97)) fun e w' => ∃ v ns, e = .returned v ∧ ns.Perm (l.map (·.1)) ∧ ns.Pairwise (fun x y => leB x y = true) ∧ NamR w' w.heap.size v ns ∧ Below w.heap.size w w' := by
  refine (callsIn_wide.1 (Lay.slices_Sorted_keys_69_70 b l.length (.map (l.map encKV)) heldR w h.owns (by rw [size_enc]; simp only [maxLen]; omega) (by rw [size_enc]; omega))).mono ?_
  rintro e w' ⟨v, ss, rfl, hS, hrow, hnil, hb⟩
  have ha : Below w.heap.size w (w.alloc (.cells #[.map (some b)] 97)) := (Below.refl _ _).alloc (Nat.le_refl _) _
  refine ⟨v, ss.mergeSort leB, rfl, ?_, ?_, ?_, ha.trans (hb.mono (by simp))⟩
  · rw [strKeys_enc] at hS
    exact (List.mergeSort_perm _ _).trans hS
  · exact List.pairwise_mergeSort (fun a b c h1 h2 => by simp only [leB, decide_eq_true_eq] at *; exact List.le_trans h1 h2) (fun a b => by simp only [leB, Bool.or_eq_true, decide_eq_true_eq]; exact List.le_total a b) _
  · refine row_weaken ?_ (show w.heap.size ≤ (w.alloc (.cells #[.map (some b)] 97)).heap.size by simp)
    rw [List.length_mergeSort]
    exact hrow
set_option maxHeartbeats 8000000 in
theorem StoreAt.attrs2 {w : World} {Z : List Nat} {gs ms gp r c : Nat} {A : Option Addr} {M : Mod} {kv : KV} (h : StoreAt w Z gs ms gp r c A M kv) (bs : List Nat) (hl : bs.length ≤ 1000000) {o : Ob} (hg : gget M.ob (keyB bs) = some o) (ha : o.a.length ≤ 1000000) (hv : ∀ q ∈ o.a, q.2.length ≤ 65536) :
    Calls Tryz.prog 35 #[.pointer (some ⟨gs, 0, none⟩), .string (strOf bs)] w (AttrsTo w o.a) := by
  rcases h.obs.get ObjR.key (keyB bs) with ⟨_, h2⟩ | ⟨v, u, h1, h2, -, go, mb, c1, ce, D, E, kv1, e, -, hat⟩
  · rw [hg] at h2; cases h2
  rw [hg] at h2
  injection h2 with h2
  subst h2
  have hvv : aget kv (keyB bs) = some (.pointer (some ⟨go, 0, none⟩)) := by rw [h1]; exact congrArg some e
  have HO := Lib.hid (object_any h.st bs hl)
  rw [hvv, Option.getD_some] at HO
  have q1 : w.cell? ⟨go, 1, none⟩ = some (.map (some mb)) := hat.blk.cell 1
  have hkl : kv1.length = o.a.length := hat.att.len
  have HA := Lib.hid hat
  have HK := Lib.hid (akeys_call (some mb) w)
  have HS := Lib.hid (sorted_akeys2 w hat.map (by omega))
  have HV := Lib.hid hv
  have hgol := hat.blk.lt
  clear h h1 hg e hat hvv hv
  go_enter Tryz.func35, Tryz.ntmps35
  go_wp2_with fail
  refine HO.out.mono ?_
  rintro e w' ⟨rfl, rfl⟩
  go_wp2_with fail
  refine HK.out.mono ?_
  rintro e w2 ⟨rfl, rfl⟩
  go_wp2_with fail
  refine HS.out.mono ?_
  rintro e w3 ⟨v, ns, rfl, hnp, hnsr, hrow, hb⟩
  obtain ⟨An, cn, rfl, hcn, hnov⟩ := hrow.form
  have hnl : ns.length = o.a.length := by rw [hnp.length_eq, List.length_map]; exact hkl
  have hnsq : ns = srt (o.a.map (·.1)) := by
    have hk1 := HA.out.att.keys AttrR.key
    rw [← hk1]
    exact srt_eq hnp hnsr
  have HNSQ := Lib.hid hnsq
  have HX := Lib.hid (And.intro hnp (And.intro hrow hb))
  have hgs3 : go < w3.heap.size := by have := hb.size; omega
  clear hnp hrow hb hnov HO HK HS hnsr hnsq
  have hz : ∀ w, (zeroValue 22).run Tryz.prog w = .ok (.slice none 0 0) w := fun w => by kernel_rfl
  go_wp2
  go_loopw [6, 21] (fun lv iv wr => ∃ (k : Nat) (l : List (Key × Value)), k ≤ ns.length ∧ iv = .int .i64 k ∧ wr.ownsRow w3.heap.size 78 2 lv k (l.flatMap atC) ∧ Rel2 (atR wr w3.heap.size) l (atL o.a (ns.take k)) ∧ Below w3.heap.size w3 wr) (fun _ iv _ => ns.length - (intS iv).toNat)
  case atStart => exact ⟨0, [], by omega, rfl, World.ownsRow_nil _ _ _ _, .nil, Below.refl _ _⟩
  case round =>
    obtain ⟨k, l, hk, rfl, hown, hrl, hb⟩ := hrel
    have HRL := Lib.hid hrl
    clear hrl
    obtain ⟨wo, hwo⟩ : ∃ wo, wo = wr := ⟨_, rfl⟩
    subst hwo
    obtain ⟨A1, cap, rfl⟩ : ∃ A1 cap, u6 = .slice A1 k cap := by
      rcases hown.2 with ⟨e, h0⟩ | ⟨g, c4, cur, e, _⟩
      · exact ⟨none, 0, by rw [e, h0]⟩
      · exact ⟨_, c4, e⟩
    have HW := Lib.hid (And.intro hown hb)
    have hwk : IntKind.i64.wrap ((k : Int) + 1) = (k : Int) + 1 := by rw [IntKind.wrap_i64]; omega
    have hbw : Below w.heap.size w wo := HX.out.2.2.trans (hb.mono HX.out.2.2.size)
    by_cases hlt : k < ns.length
    · obtain ⟨kq, hkq⟩ : ∃ kq, ns[k]? = some kq := ⟨_, List.getElem?_eq_getElem hlt⟩
      have hrow : NamR wo _ (.slice An ns.length cn) ns := HX.out.2.1.below hb
      obtain ⟨ad, u2, rfl, hab, hu2, hc⟩ := hrow.reads.at_ hlt
      have hu2' : u2 = keyV kq := by
        rw [List.getElem?_map, hkq, Option.map_some] at hu2
        injection hu2 with hu2
        exact hu2.symm
      subst hu2'
      have hat := HA.out.below hbw
      have c1 : wo.cell? ⟨go, 1, none⟩ = some (.map (some mb)) := hat.blk.cell 1
      have hm : kq ∈ kv1.map (·.1) := HX.out.1.mem_iff.1 (List.mem_of_getElem? hkq)
      obtain ⟨p, hp, hpk⟩ := List.mem_map.1 hm
      have hkl2 := hat.map.key_len Tryz.underlying9 hp
      rw [hpk] at hkl2
      have hlk := run_lookup_smap (P := Tryz.prog) (t := 97) (et := 22) Tryz.underlying9 Tryz.underlying97 (hz wo) hat.map kq hkl2
      obtain ⟨v, bsv, e1, e2, e3⟩ : ∃ v bsv, aget kv1 kq = some v ∧ gget o.a kq = some bsv ∧ AttrR wo [] (kq, v) (kq, bsv) := by
        rcases hat.att.get AttrR.key kq with ⟨h1, _⟩ | ⟨v, u, h1, h2, h3⟩
        · exfalso
          rw [hat.att.keys AttrR.key] at hm
          have hg0 : gget o.a kq = none := by
            rcases hat.att.get AttrR.key kq with ⟨_, h2⟩ | ⟨v, u, h1', _, _⟩
            · exact h2
            · rw [h1] at h1'; cases h1'
          obtain ⟨p', hp', e'⟩ := List.mem_map.1 hm
          exact gget_none hg0 p' hp' e'
        · exact ⟨v, u, h1, h2, h3⟩
      have htk : atL o.a (ns.take (k + 1)) = atL o.a (ns.take k) ++ [(kq, bsv)] := by
        unfold atL
        rw [List.take_add_one, hkq, List.map_append]
        simp [e2]
      have HTK := Lib.hid htk
      have HSV : Hid (∀ b ∈ bsv, b < 256) := Lib.hid (by obtain ⟨_, _, _, _, h, _⟩ := e3.2; exact h)
      clear htk
      rw [e1, Option.getD_some] at hlk
      obtain ⟨Av, cv, rfl, hov, hsv, -⟩ := e3.2
      have hbl : bsv.length ≤ 65536 := HV.out _ (gget_some e2)
      have HBC := Lib.hid (clone_any Av bsv.length cv bsv wo wo.heap.size (by omega) (Own.bytes hov hsv))
      have hbs := build_attr
      clear hkq hrow hu2 hat hm hp hpk hkl2 e1 e2 e3 hov hsv hown hb hbw
      unfold keyV at *
      go_wp2_with fail
      refine HBC.out.mono ?_
      rintro e w5 ⟨vc, rfl, hoc, hb5⟩
      have hbu : ∃ Ac cc, vc = .slice Ac bsv.length cc := by
        rcases hoc.2 with ⟨e, h0⟩ | ⟨g, c4, cur, e, _⟩
        · exact ⟨none, 0, by rw [e, h0]⟩
        · exact ⟨_, c4, e⟩
      obtain ⟨Ac, cc, rfl⟩ := hbu
      have hbs5 := hbs { data := (kq.toArray) } (.slice Ac bsv.length cc) rfl w5
      have hs35 := HW.out.2.size
      have HRW5 : Hid (RowR w5 w3.heap.size [] (.slice Ac bsv.length cc) bsv) := Lib.hid ⟨Ac, cc, rfl, row_weaken hoc hs35, HSV.out, fun _ _ h => by cases h⟩
      have H5 := Lib.hid (And.intro (row_of HW.out.1 fun j hj => hb5.block j (row_under HW.out.1 j hj)) hb5)
      have hs5 := hb5.size
      have hs3 := HW.out.2.size
      have hnew := Reads.newN w5 [.string { data := kq.toArray }, .slice Ac bsv.length cc] 1 2 78 (0, 0) rfl
      have HNEW := Lib.hid hnew
      have hsA : w5.heap.size < (w5.alloc (.cells #[.string { data := kq.toArray }, .slice Ac bsv.length cc] 78)).heap.size := by simp
      have HB6 := Lib.hid (H5.out.2.alloc (by omega) (.cells #[.string { data := kq.toArray }, .slice Ac bsv.length cc] 78))
      have HOW := Lib.hid (show (w5.alloc (.cells #[.string { data := kq.toArray }, .slice Ac bsv.length cc] 78)).ownsRow w3.heap.size 78 2 (.slice A1 k cap) k (l.flatMap atC) from row_of H5.out.1 fun j hj => Below.heap_alloc _ _ _ (row_under H5.out.1 j hj))
      have HB5 := Lib.hid (show Below w3.heap.size w3 (w5.alloc (.cells #[.string { data := kq.toArray }, .slice Ac bsv.length cc] 78)) from (HW.out.2.trans (H5.out.2.mono hs3)).alloc (by omega) _)
      clear hoc hb5 HBC hbs hlk hnew
      go_wp2_with (refine app_attr (.tmp 25) (.tmp 35) rfl rfl w3.heap.size (.slice A1 k cap) k (l.flatMap atC) rfl HOW.out (w5.heap.size + 1) _ 1 1 [.string { data := kq.toArray }, .slice Ac bsv.length cc] rfl HNEW.out (by simp [Value.oneCell']) (by omega) (by omega) ?_; intro v2 w2 h2 g2)
      have hb6 : Below w3.heap.size w3 w2 := by
        exact HB5.out.grown g2 (by simp; omega) (fun j hj => (World.ownsRow.lt HOW.out _ hj).1)
      have honl : Only (rowOf (.slice A1 k cap)) (w5.alloc (.cells #[.string { data := kq.toArray }, .slice Ac bsv.length cc] 78)) w2 := (Only.refl _ _).grown g2 (fun j e => .inl (mem_rowOf.2 e))
      have hodd : ∀ j ∈ rowOf (.slice A1 k cap), Odd (w5.alloc (.cells #[.string { data := kq.toArray }, .slice Ac bsv.length cc] 78)) 5 j := fun j hj => by
        obtain ⟨cs, hb⟩ := typed_of HOW.out (mem_rowOf.1 hj)
        exact Odd.blk hb (by decide)
      have hrl2 : Rel2 (atR w2 w3.heap.size) (l ++ [(kq, .slice Ac bsv.length cc)]) (atL o.a (ns.take (k + 1))) := by
        rw [HTK.out]
        have g1 := HRL.out.imp fun a b (hr : atR _ _ a b) => (show atR w2 w3.heap.size a b from ⟨hr.1, (hr.2.below HB6.out).only honl fun j hj => .inr (hodd j hj)⟩)
        exact g1.app (.cons ⟨rfl, (HRW5.out.below (below_alloc_x _ _)).only honl fun j hj => .inr (hodd j hj)⟩ .nil)
      have hfl : (l ++ [(kq, Value.slice Ac bsv.length cc)]).flatMap atC = l.flatMap atC ++ [.string { data := kq.toArray }, .slice Ac bsv.length cc] := by
        rw [List.flatMap_append]; rfl
      rw [← hfl] at h2
      have H6 := Lib.hid (And.intro h2 (And.intro hrl2 hb6))
      clear h2 g2 hb6 honl hodd hrl2 hfl
      go_wp2
      go_roundw
      case rel => exact ⟨k + 1, _, by omega, by go_num, H6.out.1, H6.out.2.1, H6.out.2.2⟩
      case measure => simp [intS]; omega
    · obtain rfl : k = ns.length := by omega
      have hfin := HW.out
      go_wp2
      go_ret
      have hf1 := HW.out.1
      have hf2 := HRL.out
      rw [List.take_length, HNSQ.out] at hf2
      rw [hnl] at hf1
      have hs3 := HX.out.2.2.size
      exact ⟨A1, cap, l, by rw [← hnl]; rfl, row_weaken hf1 hs3, hf2.imp fun a b hr => ⟨hr.1, hr.2.weaken hs3⟩, hbw⟩
end Go.Proofs.YtfbpfgbmlbkffaaGreat
