/-
  Spaces: extents are turned, all of them or none. Conditions: a space stands as it is said to; the extents' numbers are int's; they lie in no block of the space.
-/
import Derived.Test.YtliockcbnmbhnaaSe
namespace Go.Proofs.Ytliockcbnmbhnaa
open Go.RowKit Go.BigFrame
set_option linter.unusedSimpArgs false
set_option linter.unusedVariables false
def InI (e : Int × Int) : Prop := (-9223372036854775808 ≤ e.1 ∧ e.1 ≤ 9223372036854775807) ∧ -9223372036854775808 ≤ e.2 ∧ e.2 ≤ 9223372036854775807
/-- an extent has blocks, all are there and are b -/
def AllE (fl : List Bool) (e : Int × Int) (b : Bool) : Prop := ∃ x y : Nat, e = ((x : Int), (y : Int)) ∧ 1 ≤ y ∧ AllR fl x y b
/-- what a call of all tells -/
def Told (w : World) (P : Prop) (e : Ending) (w' : World) : Prop := ∃ r : Bool, e = .returned (.bool r) ∧ Below w.heap.size w w' ∧ (r = true ↔ P)
theorem allR_iff {fl : List Bool} {x y : Nat} (h : x + y ≤ fl.length) (b : Bool) : (∀ z ∈ (fl.drop x).take y, z = b) ↔ AllR fl x y b := by
  refine ⟨fun hz => ⟨h, fun j hj hk => ?_⟩, fun ha z hz => ?_⟩
  · have hjl : j < fl.length := by omega
    rw [List.getElem?_eq_getElem hjl, Option.some.injEq]
    refine hz _ ?_
    have : ((fl.drop x).take y)[j - x]? = some fl[j] := by
      rw [List.getElem?_take, if_pos (by omega), List.getElem?_drop, show x + (j - x) = j by omega, List.getElem?_eq_getElem hjl]
    exact List.mem_of_getElem? this
  · obtain ⟨k, hk, rfl⟩ := List.mem_iff_getElem.1 hz
    have hkl : k < y := by simp at hk; omega
    have h1 := ha.2 (x + k) (by omega) (by omega)
    have : ((fl.drop x).take y)[k]? = some (((fl.drop x).take y)[k]) := List.getElem?_eq_getElem hk
    rw [List.getElem?_take, if_pos hkl, List.getElem?_drop, h1] at this
    injection this with this
    exact this.symm
theorem sall_any {w : World} {g r c : Nat} {A : Option Addr} {fl : List Bool} {left : Int} (e : Int × Int) (b : Bool) (hi : InI e) (h : SAt w g r A c fl left) :
    Calls Try.prog 43 #[.pointer (some ⟨g, 0, none⟩), .agg #[.int .i64 e.1, .int .i64 e.2], .bool b] w (Told w (AllE fl e b)) := by
  obtain ⟨x, y⟩ := e
  have hlim := h.lim
  by_cases hno : y < 1 ∨ x < 0 ∨ (fl.length : Int) < x + y
  · refine (sall_not fl x y b hi.1.1 hi.1.2 hi.2.1 hi.2.2 (by omega) h.blk hno).mono ?_
    rintro e w' ⟨rfl, hb⟩
    refine ⟨false, rfl, hb, by simp, fun ⟨nx, ny, he, h1, h2⟩ => ?_⟩
    injection he with e1 e2
    have := h2.1
    omega
  · obtain ⟨nx, rfl⟩ : ∃ n : Nat, x = n := ⟨x.toNat, by omega⟩
    obtain ⟨ny, rfl⟩ : ∃ n : Nat, y = n := ⟨y.toNat, by omega⟩
    have hpos : fl ≠ [] := fun e => by subst e; simp at hno; omega
    have hrl : r + 1 ≤ w.heap.size := by
      rcases h.row with e | ⟨_, cs, hb, _⟩
      · exact absurd e hpos
      · exact hb.lt
    refine (sall_in fl nx ny b (by omega) (by omega) h.cap (by omega) h.blk hrl h.row.reads).mono ?_
    rintro e w' ⟨r, rfl, hb, hr⟩
    refine ⟨r, rfl, hb, hr.trans ⟨fun hz => ⟨nx, ny, rfl, by omega, (allR_iff (by omega) b).1 hz⟩, fun ⟨a, d, he, h1, h2⟩ => ?_⟩⟩
    injection he with e1 e2
    obtain rfl : nx = a := by omega
    obtain rfl : ny = d := by omega
    exact (allR_iff (by omega) b).2 h2
theorem run_head_ext (A : Option Addr) (n c i : Nat) (h : i ≤ c) (w : World) : (Instr.slice 36 (.slice A n c) none (some (.int .i64 (i : Int))) none).run Try.prog w = .ok (.slice (if c = 0 then A else A.map (·.add 0)) i c) w := by
  have hsz : ∀ w, (sizeOf (Try.prog.elem 36)).run Try.prog w = .ok 2 w := fun w => by kernel_rfl
  rw [run_slice_h w 36 A n c (by kernel_rfl) .i64 (i : Int) (by omega) (by omega), hsz]
  simp [Result.andThen, sliced]
theorem run_one_ext (A : Option Addr) (n c i : Nat) (h : i + 1 ≤ c) (w : World) : (Instr.slice 36 (.slice A n c) (some (.int .i64 (i : Int))) (some (.int .i64 ((i : Int) + 1))) none).run Try.prog w = .ok (.slice (A.map (·.add (i * 2))) 1 (c - i)) w := by
  have hsz : ∀ w, (sizeOf (Try.prog.elem 36)).run Try.prog w = .ok 2 w := fun w => by kernel_rfl
  rw [run_slice_lh w 36 A n c (by kernel_rfl) .i64 .i64 (i : Int) ((i : Int) + 1) (by omega) (by omega) (by omega), hsz]
  simp only [Result.andThen, sliced, Int.toNat_natCast]
  rw [show ((i : Int) + 1).toNat - i = 1 by omega, if_neg (by omega)]
/-- extents that may be turned: as numbers -/
def TurnOk (fl : List Bool) (es : List (Int × Int)) (b : Bool) (ns : List (Nat × Nat)) : Prop := es = natE ns ∧ (∀ e ∈ ns, 1 ≤ e.2) ∧ OkA fl ns b
theorem TurnOk.snoc {fl : List Bool} {es : List (Int × Int)} {b : Bool} {ns : List (Nat × Nat)} (h : TurnOk fl es b ns) {e : Int × Int} (ha : AllE (setA fl ns b) e (!b)) : ∃ x y : Nat, e = ((x : Int), (y : Int)) ∧ AllR (setA fl ns b) x y (!b) ∧ TurnOk fl (es ++ [e]) b (ns ++ [(x, y)]) := by
  obtain ⟨x, y, rfl, hy, ha⟩ := ha
  refine ⟨x, y, rfl, ha, by rw [h.1]; simp [natE], fun e he => ?_, OkA.app.2 ⟨h.2.2, ha, trivial⟩⟩
  rcases List.mem_append.1 he with he | he
  · exact h.2.1 e he
  · simp at he; subst he; exact hy
theorem TurnOk.stop {fl : List Bool} {es fs : List (Int × Int)} {b : Bool} {ns : List (Nat × Nat)} (h : TurnOk fl es b ns) {e : Int × Int} (ha : ¬ AllE (setA fl ns b) e (!b)) : ∀ ms, ¬ TurnOk fl (es ++ e :: fs) b ms := by
  rintro ms ⟨h1, h2, h3⟩
  have hl : es.length ≤ ms.length := by have := congrArg List.length h1; simp [natE] at this; omega
  have e1 : natE (ms.take es.length) = es := by
    have := congrArg (List.take es.length) h1
    rw [List.take_left' rfl] at this
    rw [natE, List.map_take]
    exact this.symm
  have inj : ∀ a b : List (Nat × Nat), natE a = natE b → a = b := fun a b hab => by
    refine (List.map_inj_right ?_).1 hab
    rintro ⟨p, q⟩ ⟨p', q'⟩ hh
    simp only [Prod.mk.injEq] at hh ⊢
    omega
  have e2 : ms.take es.length = ns := inj _ _ (e1.trans h.1)
  have e3 := congrArg (List.drop es.length) h1
  rw [List.drop_left' rfl, natE, ← List.map_drop] at e3
  cases hd : ms.drop es.length with
  | nil => rw [hd] at e3; simp at e3
  | cons m r =>
    rw [hd] at e3
    simp only [List.map_cons, List.cons.injEq] at e3
    have hm : m ∈ ms := List.mem_of_mem_drop (by rw [hd]; exact List.mem_cons_self ..)
    rw [← List.take_append_drop es.length ms, e2, hd, OkA.app] at h3
    exact ha ⟨m.1, m.2, e3.1, h2 m hm, h3.2.1⟩
/-- what a call of turn comes to -/
def TurnTo (w : World) (g r c : Nat) (A : Option Addr) (fl : List Bool) (es : List (Int × Int)) (b : Bool) (e : Ending) (w' : World) : Prop :=
  Only [g, r] w w' ∧ ((∃ ns, TurnOk fl es b ns ∧ e = .returned .nilIface ∧ SAt w' g r A c (setA fl ns b) (cnt (setA fl ns b))) ∨ ((∀ ns, ¬ TurnOk fl es b ns) ∧ e = .returned (errV 1) ∧ SAt w' g r A c fl (cnt fl)))
set_option maxHeartbeats 1000000 in
theorem sturn_any {w : World} {g r c B : Nat} {A : Option Addr} {fl : List Bool} (es : List (Int × Int)) (b : Bool) (hI : ∀ e ∈ es, InI e) (h : SAt w g r A c fl (cnt fl)) (hgr : g ≠ r) (E : Option Addr) (c' : Nat) (hc' : es.length ≤ c') (hR : ExtR w B E es) (hB : B ≤ w.heap.size)
    (hfar : ∀ ad, E = some ad → ad.block ≠ g ∧ ad.block ≠ r) (hle : es.length ≤ 65536) :
    Calls Try.prog 33 #[.pointer (some ⟨g, 0, none⟩), .slice E es.length c', .bool b] w (TurnTo w g r c A fl es b) := by
  have H0 := Lib.hid h
  have HR := Lib.hid hR
  have HF := Lib.hid hfar
  have HI := Lib.hid hI
  clear h hR hfar hI
  go_enter Try.func33, Try.ntmps33
  go_wp2
  go_loopw [11] (fun i wr => ∃ (k : Nat) (ns : List (Nat × Nat)), k ≤ es.length ∧ i = .int .i64 k ∧ Only [g, r] w wr ∧ TurnOk fl (es.take k) b ns ∧ SAt wr g r A c (setA fl ns b) (cnt (setA fl ns b))) (fun i _ => es.length - (intS i).toNat)
  case atStart => exact ⟨0, [], by omega, rfl, Only.refl _ _, ⟨rfl, by simp, trivial⟩, by simpa [setA] using H0.out⟩
  case round =>
    obtain ⟨k, ns, hk, rfl, ho, ht, hs⟩ := hrel
    obtain ⟨wo, hwo⟩ : ∃ wo, wo = wr := ⟨_, rfl⟩
    subst hwo
    have HS := Lib.hid hs
    have HT := Lib.hid ht
    have HOn := Lib.hid ho
    have hRr : ExtR wo B E es := HR.out.only ho hB (fun ad h => by have := HF.out ad h; simp; omega)
    clear hs ho ht
    by_cases hlt : k < es.length
    · obtain ⟨ad, e, rfl, hab, he, hc0, hc1⟩ := hRr.get hlt
      have HRr := Lib.hid hRr
      have hie : InI e := HI.out e (List.mem_of_getElem? he)
      have htk := List.take_add_one (l := es) (i := k)
      rw [he] at htk
      have hsp : es = es.take k ++ e :: es.drop (k + 1) := by
        have h0 := (List.take_append_drop k es).symm
        rwa [List.drop_eq_getElem_cons hlt, show es[k] = e by rw [List.getElem?_eq_getElem hlt] at he; injection he] at h0
      have HT2 := Lib.hid (And.intro htk (And.intro hsp he))
      have S1 : SAt (wo.alloc (.cells #[.int .i64 e.1, .int .i64 e.2] 45)) g r A c (setA fl ns b) (cnt (setA fl ns b)) := HS.out.of (Below.heap_alloc _ _ _ HS.out.blk.lt) (fun _ _ hb => Below.heap_alloc _ _ _ hb.lt)
      have O1 : Only [g, r] w (wo.alloc (.cells #[.int .i64 e.1, .int .i64 e.2] 45)) := HOn.out.alloc _
      have HS1 := Lib.hid S1
      have HO1 := Lib.hid O1
      have HA := Lib.hid (sall_any e (!b) hie S1)
      clear hRr htk hsp he S1 O1
      go_wp2_with (refine wpList_load_ext rfl (.tmp 14) rfl _ rfl _ hc0 hc1 ?_)
      clear hc0 hc1
      refine HA.out.mono ?_
      rintro e3 w3 ⟨rr, rfl, hb3, hrr⟩
      have S3 : SAt w3 g r A c (setA fl ns b) (cnt (setA fl ns b)) := HS1.out.of (hb3.block g HS1.out.blk.lt) (fun _ _ hx => hb3.block r hx.lt)
      have O3 : Only [g, r] w w3 := HO1.out.trans (Only.of_below hb3 [g, r]) (Fresh.refl _ _)
      have R3 : ExtR w3 B (some ad) es := HR.out.only O3 hB (fun ad h => by have := HF.out ad h; simp; omega)
      have z3 := O3.size
      have HX := Lib.hid (And.intro S3 (And.intro O3 R3))
      have HRR := Lib.hid hrr
      clear HS HS1 HO1 HA HRr S3 O3 R3 hb3 hrr
      cases rr
      · have hno : ¬ AllE (setA fl ns b) e (!b) := fun h => by have := HRR.out.2 h; cases this
        have HN := Lib.hid hno
        clear hno
        have hkl : (es.take k).length = k := by simp; omega
        have hnl : ns.length = k := by have := congrArg List.length HT.out.1; simp [natE] at this; omega
        have hback := HT.out.2.2.back
        have hRk : ExtR w3 B (some ad) (natE ns) := by
          rw [← HT.out.1]
          have := HX.out.2.2
          refine ⟨by rw [extS_len], fun hn => ?_⟩
          obtain ⟨ad', e', hb', hc'⟩ := this.2 (by omega)
          refine ⟨ad', e', hb', fun j u hu => hc' j u ?_⟩
          rw [← List.take_append_drop k es, extS, List.flatMap_append]
          exact (List.getElem?_append_left (show j < (extS (es.take k)).length from (List.getElem?_eq_some_iff.1 hu).1)).trans hu
        have hsl := run_head_ext (some ad) es.length c' k (by omega)
        have hadd : (if c' = 0 then some ad else Option.map (fun x => Addr.add x 0) (some ad)) = some ad := by split <;> simp [Addr.add]
        rw [hadd] at hsl
        have hset := sset_any (B := B) ns (!b) (hback.1) HX.out.1 hgr (some ad) c' hRk (by omega) (fun ad' h => HF.out ad' h) (by omega)
        rw [hback.2, hnl] at hset
        have HSE := Lib.hid hset
        clear hset hback hRk hadd
        go_wp2_with fail
        refine HSE.out.mono ?_
        rintro e4 w4 ⟨rfl, ho4, hs4⟩
        go_wp2
        go_ret
        refine ⟨HX.out.2.1.trans ho4 (Fresh.refl _ _), .inr ⟨?_, rfl, hs4⟩⟩
        rw [HT2.out.2.1]
        exact HT.out.stop HN.out
      · obtain ⟨x, y, rfl, hxy, htn⟩ := HT.out.snoc (HRR.out.1 rfl)
        have hRk : ExtR w3 B (some (ad.add (k * 2))) (natE [(x, y)]) := by
          have := HX.out.2.2
          obtain ⟨ad', e1, e', hb', h0, h1, h2⟩ := this.get hlt
          have he2 := HT2.out.2.2
          rw [h0] at he2
          injection he2 with he2
          subst he2
          injection e' with e'
          subst e'
          refine ⟨rfl, fun _ => ⟨_, rfl, by rw [block_of_add]; exact hb', fun j u hu => ?_⟩⟩
          match j, hu with
          | 0, hu => simp [extS, ext1, natE] at hu; subst hu; simpa [Addr.add] using h1
          | 1, hu => simp [extS, ext1, natE] at hu; subst hu; exact h2
        have hsl := run_one_ext (some ad) es.length c' k (by omega)
        rw [Option.map_some] at hsl
        have hset := sset_any (B := B) [(x, y)] b ⟨hxy, trivial⟩ HX.out.1 hgr (some (ad.add (k * 2))) (c' - k) hRk (by omega) (fun ad' h => by injection h with h; subst h; rw [block_of_add]; exact HF.out ad rfl) (by simp)
        rw [show setA (setA fl ns b) [(x, y)] b = setA fl (ns ++ [(x, y)]) b from (setA_app _ _ _ _).symm] at hset
        have HSE := Lib.hid hset
        have HTN := Lib.hid htn
        have hwk : IntKind.i64.wrap ((k : Int) + 1) = (k : Int) + 1 := by rw [IntKind.wrap_i64]; omega
        clear hset hRk hxy htn
        go_wp2_with fail
        refine HSE.out.mono ?_
        rintro e4 w4 ⟨rfl, ho4, hs4⟩
        have HF4 := Lib.hid (And.intro ho4 hs4)
        clear ho4 hs4
        go_wp2
        go_roundw
        case rel => exact ⟨k + 1, ns ++ [(x, y)], by omega, by go_num, HX.out.2.1.trans HF4.out.1 (Fresh.refl _ _), by rw [HT2.out.1]; exact HTN.out, HF4.out.2⟩
        case measure => simp [intS]; omega
    · obtain rfl : k = es.length := by omega
      clear hRr
      go_wp2
      go_ret
      have h := HT.out
      rw [List.take_length] at h
      exact ⟨HOn.out, .inl ⟨ns, h, rfl, HS.out⟩⟩
end Go.Proofs.Ytliockcbnmbhnaa
