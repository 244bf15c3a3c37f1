/-
  An object's attributes, counted. Conditions: the store lies where it is said to.
-/
import Derived.Test.YtfbpfgbmlbkffaaGreatZi
import Derived.Test.YtfbpfgbmlbkffaaGreatScdC
namespace Go.Proofs.YtfbpfgbmlbkffaaGreat
open Go.RowKit Go.BigFrame Go.Shelf Go.Sort Go.Maps Go.WideElems
set_option linter.unusedSimpArgs false
set_option linter.unusedVariables false
set_option maxRecDepth 100000
theorem SMap.key_len {P : Program} {kt : TypeId} {w : World} {b : Nat} {l : KV} (hk : P.underlying kt = some .string) (h : SMap P kt w b l) {p : Key × Value} (hp : p ∈ l) : p.1.length ≤ maxLen := by
  obtain ⟨es, c, h1, h2, h3⟩ := h
  have hm : encKV p ∈ l.map encKV := List.mem_map.2 ⟨p, hp, rfl⟩
  rw [← h3] at hm
  obtain ⟨x, hx, e⟩ := List.mem_map.1 ((WideShapes.sorted_perm _).mem_iff.1 hm)
  obtain ⟨y, hy⟩ := h2.reads x hx
  have hr : rg P kt heldR x = y := rg_of hy
  have hy1 := rd_key hy
  rw [← hr, e] at hy1
  simp only [keyOf, mapKey, hk, encKV] at hy1
  split at hy1
  all_goals first | (simp at hy1; done) | skip
  all_goals
    simp at hy1
    obtain ⟨h4, h5⟩ := hy1
    rw [← h5]
    first | exact h4 | simpa using h4
theorem sorted_akeys {b : Nat} {l : KV} (w : World) (h : SMap Tryz.prog 9 w b l) (hl : l.length ≤ 1000000) :
    Calls Tryz.prog 69 #[.func (.func 95) #[] #[.pointer (some ⟨w.heap.size, 0, none⟩)]] (w.alloc (.cells #[.map (some b)] 97)) fun e w' => ∃ v ns, e = .returned v ∧ ns.Perm (l.map (·.1)) ∧ NamR w' w.heap.size v ns ∧ Below w.heap.size w w' := by
  refine (callsIn_wide.1 (Lay.slices_Sorted_keys_69_70 b l.length (.map (l.map encKV)) heldR w h.owns (by rw [size_enc]; simp only [maxLen]; omega) (by rw [size_enc]; omega))).mono ?_
  rintro e w' ⟨v, ss, rfl, hS, hrow, hnil, hb⟩
  have ha : Below w.heap.size w (w.alloc (.cells #[.map (some b)] 97)) := (Below.refl _ _).alloc (Nat.le_refl _) _
  refine ⟨v, ss.mergeSort leB, rfl, ?_, ?_, ha.trans (hb.mono (by simp))⟩
  · rw [strKeys_enc] at hS
    exact (List.mergeSort_perm _ _).trans hS
  · refine row_weaken ?_ (show w.heap.size ≤ (w.alloc (.cells #[.map (some b)] 97)).heap.size by simp)
    rw [List.length_mergeSort]
    exact hrow
theorem akeys_call (mb : Option Nat) (w : World) : Calls Tryz.prog 70 #[.map mb] w fun e w' => e = .returned (.func (.func 95) #[] #[.pointer (some ⟨w.heap.size, 0, none⟩)]) ∧ w' = w.alloc (.cells #[.map mb] 97) :=
  callsIn_wide.1 (Lay.maps_Keys_70 mb w)
theorem attr_info : (Tryz.prog.info? 78).map (fun i => (i.zero, i.size, i.bytes)) = some (some (.agg #[.string { data := #[] }, .slice none 0 0]), 2, 40) := by kernel_rfl
theorem app_attr {w : World} {ops : Array Oper} {rest : List Oper} {o : Oper} {a : Act} {Q : Exit → Act → World → Prop} (s x : Operand)
    (hgd : o.guard = none) (ho : o.op = .call { callee := .builtin .append, args := #[s, x], argTypes := #[73, 73] })
    (base : Nat) (v : Value) (n : Nat) (xs : List Value) (hs : a.eval s = v) (hown : w.ownsRow base 78 2 v n xs)
    (B : Nat) (A : Option Addr) (m c : Nat) (news : List Value) (hx : a.eval x = .slice A m c) (hr : Reads w B 2 A m news) (h1 : ∀ u ∈ news, u.oneCell' = true)
    (hsz : n + m ≤ 10000000) (hbase : base ≤ w.heap.size)
    (h : ∀ v' w', w'.ownsRow base 78 2 v' (n + m) (xs ++ news) → w.grownBy w' v.ownBlock → wpList Tryz.prog ops Q rest (a.put o.dst v') w') :
    wpList Tryz.prog ops Q (o :: rest) a w := by
  obtain ⟨i0, hi0, hz0, hz1, hz2⟩ := info_parts attr_info
  exact wpList_append_any w hgd s x _ ho base 78 i0 _ 2 40 Tryz.underlying73 hi0 hz0 hz1 hz2 rfl (by omega) v n xs hs hown B A m c news hx hr h1 (by simp only [maxLen]; omega) (by omega) hbase (fun v' w' h1 h2 _ => h v' w' h1 h2)
theorem build_attr (s : ByteArray) (u : Value) (hu : u.oneCell' = true) (w : World) : (Instr.buildSlice 73 1 #[(0, .agg #[.string s, u])]).run Tryz.prog w = .ok (.slice (some ⟨w.heap.size, 0, none⟩) 1 1) (w.alloc (.cells #[.string s, u] 78)) :=
  run_buildSlice_one (size := 2) Tryz.underlying73 (by kernel_rfl) (by omega) (by omega) rfl w
set_option maxHeartbeats 8000000 in
theorem StoreAt.attrs {w : World} {Z : List Nat} {gs ms gp r c : Nat} {A : Option Addr} {M : Mod} {kv : KV} (h : StoreAt w Z gs ms gp r c A M kv) (bs : List Nat) (hl : bs.length ≤ 1000000) {o : Ob} (hg : gget M.ob (keyB bs) = some o) (ha : o.a.length ≤ 1000000) (hv : ∀ q ∈ o.a, q.2.length ≤ 65536) :
    Calls Tryz.prog 35 #[.pointer (some ⟨gs, 0, none⟩), .string (strOf bs)] w fun e w' => ∃ A2 c2, e = .returned (.slice A2 o.a.length c2) ∧ Below w.heap.size w w' := by
  rcases h.obs.get ObjR.key (keyB bs) with ⟨_, h2⟩ | ⟨v, u, h1, h2, -, go, mb, c1, ce, D, E, kv1, e, -, hat⟩
  · rw [hg] at h2; cases h2
  rw [hg] at h2
  injection h2 with h2
  subst h2
  have hvv : aget kv (keyB bs) = some (.pointer (some ⟨go, 0, none⟩)) := by rw [h1]; exact congrArg some e
  have HO := Lib.hid (object_any h.st bs hl)
  rw [hvv, Option.getD_some] at HO
  have q1 : w.cell? ⟨go, 1, none⟩ = some (.map (some mb)) := hat.blk.cell 1
  have hkl : kv1.length = o.a.length := hat.att.len
  have HA := Lib.hid hat
  have HK := Lib.hid (akeys_call (some mb) w)
  have HS := Lib.hid (sorted_akeys w hat.map (by omega))
  have HV := Lib.hid hv
  have hgol := hat.blk.lt
  clear h h1 hg e hat hvv hv
  go_enter Tryz.func35, Tryz.ntmps35
  go_wp2_with fail
  refine HO.out.mono ?_
  rintro e w' ⟨rfl, rfl⟩
  go_wp2_with fail
  refine HK.out.mono ?_
  rintro e w2 ⟨rfl, rfl⟩
  go_wp2_with fail
  refine HS.out.mono ?_
  rintro e w3 ⟨v, ns, rfl, hnp, hrow, hb⟩
  obtain ⟨An, cn, rfl, hcn, hnov⟩ := hrow.form
  have hnl : ns.length = o.a.length := by rw [hnp.length_eq, List.length_map]; exact hkl
  have HX := Lib.hid (And.intro hnp (And.intro hrow hb))
  have hgs3 : go < w3.heap.size := by have := hb.size; omega
  clear hnp hrow hb hnov HO HK HS
  have hz : ∀ w, (zeroValue 22).run Tryz.prog w = .ok (.slice none 0 0) w := fun w => by kernel_rfl
  go_wp2
  go_loopw [6, 21] (fun lv iv wr => ∃ (k : Nat) (xs : List Value), k ≤ ns.length ∧ iv = .int .i64 k ∧ wr.ownsRow w3.heap.size 78 2 lv k xs ∧ Below w3.heap.size w3 wr) (fun _ iv _ => ns.length - (intS iv).toNat)
  case atStart => exact ⟨0, [], by omega, rfl, World.ownsRow_nil _ _ _ _, Below.refl _ _⟩
  case round =>
    obtain ⟨k, xs, hk, rfl, hown, hb⟩ := hrel
    obtain ⟨wo, hwo⟩ : ∃ wo, wo = wr := ⟨_, rfl⟩
    subst hwo
    obtain ⟨A1, cap, rfl⟩ : ∃ A1 cap, u6 = .slice A1 k cap := by
      rcases hown.2 with ⟨e, h0⟩ | ⟨g, c4, cur, e, _⟩
      · exact ⟨none, 0, by rw [e, h0]⟩
      · exact ⟨_, c4, e⟩
    have HW := Lib.hid (And.intro hown hb)
    have hwk : IntKind.i64.wrap ((k : Int) + 1) = (k : Int) + 1 := by rw [IntKind.wrap_i64]; omega
    have hbw : Below w.heap.size w wo := HX.out.2.2.trans (hb.mono HX.out.2.2.size)
    by_cases hlt : k < ns.length
    · obtain ⟨kq, hkq⟩ : ∃ kq, ns[k]? = some kq := ⟨_, List.getElem?_eq_getElem hlt⟩
      have hrow : NamR wo _ (.slice An ns.length cn) ns := HX.out.2.1.below hb
      obtain ⟨ad, u2, rfl, hab, hu2, hc⟩ := hrow.reads.at_ hlt
      have hu2' : u2 = keyV kq := by
        rw [List.getElem?_map, hkq, Option.map_some] at hu2
        injection hu2 with hu2
        exact hu2.symm
      subst hu2'
      have hat := HA.out.below hbw
      have c1 : wo.cell? ⟨go, 1, none⟩ = some (.map (some mb)) := hat.blk.cell 1
      have hm : kq ∈ kv1.map (·.1) := HX.out.1.mem_iff.1 (List.mem_of_getElem? hkq)
      obtain ⟨p, hp, hpk⟩ := List.mem_map.1 hm
      have hkl2 := hat.map.key_len Tryz.underlying9 hp
      rw [hpk] at hkl2
      have hlk := run_lookup_smap (P := Tryz.prog) (t := 97) (et := 22) Tryz.underlying9 Tryz.underlying97 (hz wo) hat.map kq hkl2
      obtain ⟨v, bsv, e1, e2, e3⟩ : ∃ v bsv, aget kv1 kq = some v ∧ gget o.a kq = some bsv ∧ AttrR wo [] (kq, v) (kq, bsv) := by
        rcases hat.att.get AttrR.key kq with ⟨h1, _⟩ | ⟨v, u, h1, h2, h3⟩
        · exfalso
          rw [hat.att.keys AttrR.key] at hm
          have hg0 : gget o.a kq = none := by
            rcases hat.att.get AttrR.key kq with ⟨_, h2⟩ | ⟨v, u, h1', _, _⟩
            · exact h2
            · rw [h1] at h1'; cases h1'
          obtain ⟨p', hp', e'⟩ := List.mem_map.1 hm
          exact gget_none hg0 p' hp' e'
        · exact ⟨v, u, h1, h2, h3⟩
      rw [e1, Option.getD_some] at hlk
      obtain ⟨Av, cv, rfl, hov, hsv, -⟩ := e3.2
      have hbl : bsv.length ≤ 65536 := HV.out _ (gget_some e2)
      have HBC := Lib.hid (clone_any Av bsv.length cv bsv wo wo.heap.size (by omega) (Own.bytes hov hsv))
      have hbs := build_attr
      clear hkq hrow hu2 hat hm hp hpk hkl2 e1 e2 e3 hov hsv hown hb hbw
      unfold keyV at *
      go_wp2_with fail
      refine HBC.out.mono ?_
      rintro e w5 ⟨vc, rfl, hoc, hb5⟩
      have hbu : ∃ Ac cc, vc = .slice Ac bsv.length cc := by
        rcases hoc.2 with ⟨e, h0⟩ | ⟨g, c4, cur, e, _⟩
        · exact ⟨none, 0, by rw [e, h0]⟩
        · exact ⟨_, c4, e⟩
      obtain ⟨Ac, cc, rfl⟩ := hbu
      have hbs5 := hbs { data := (kq.toArray) } (.slice Ac bsv.length cc) rfl w5
      have H5 := Lib.hid (And.intro (row_of HW.out.1 fun j hj => hb5.block j (row_under HW.out.1 j hj)) hb5)
      have hs5 := hb5.size
      have hs3 := HW.out.2.size
      have hnew := Reads.newN w5 [.string { data := kq.toArray }, .slice Ac bsv.length cc] 1 2 78 (0, 0) rfl
      have HNEW := Lib.hid hnew
      have hsA : w5.heap.size < (w5.alloc (.cells #[.string { data := kq.toArray }, .slice Ac bsv.length cc] 78)).heap.size := by simp
      have HOW := Lib.hid (show (w5.alloc (.cells #[.string { data := kq.toArray }, .slice Ac bsv.length cc] 78)).ownsRow w3.heap.size 78 2 (.slice A1 k cap) k xs from row_of H5.out.1 fun j hj => Below.heap_alloc _ _ _ (row_under H5.out.1 j hj))
      have HB5 := Lib.hid (show Below w3.heap.size w3 (w5.alloc (.cells #[.string { data := kq.toArray }, .slice Ac bsv.length cc] 78)) from (HW.out.2.trans (H5.out.2.mono hs3)).alloc (by omega) _)
      clear hoc hb5 HBC hbs hlk hnew
      go_wp2_with (refine app_attr (.tmp 25) (.tmp 35) rfl rfl w3.heap.size (.slice A1 k cap) k xs rfl HOW.out (w5.heap.size + 1) _ 1 1 [.string { data := kq.toArray }, .slice Ac bsv.length cc] rfl HNEW.out (by simp [Value.oneCell']) (by omega) (by omega) ?_; intro v2 w2 h2 g2)
      have hb6 : Below w3.heap.size w3 w2 := by
        exact HB5.out.grown g2 (by simp; omega) (fun j hj => (World.ownsRow.lt HOW.out _ hj).1)
      have H6 := Lib.hid (And.intro h2 hb6)
      clear h2 g2 hb6
      go_wp2
      go_roundw
      case rel => exact ⟨k + 1, _, by omega, by go_num, H6.out.1, H6.out.2⟩
      case measure => simp [intS]; omega
    · obtain rfl : k = ns.length := by omega
      have hfin := HW.out
      go_wp2
      go_ret
      exact ⟨A1, cap, by rw [← hnl]; rfl, hbw⟩
end Go.Proofs.YtfbpfgbmlbkffaaGreat
