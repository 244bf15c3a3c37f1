/-
  The document's spaces: what is given back and claimed. Conditions: rows read as they are said to; the extents' numbers are int's.
-/
import Derived.Test.YtliockcbnmbhnaaUd
import Derived.Test.YtliockcbnmbhnaaTh
namespace Go.Proofs.Ytliockcbnmbhnaa
open Go.RowKit Go.BigFrame
set_option linter.unusedSimpArgs false
set_option linter.unusedVariables false
/-- what a call of the document's turn comes to -/
def DTurn (w : World) (A : Option Addr) (c : Nat) (fl : List Bool) (es : List (Int × Int)) (b : Bool) (V1 V2 : Value) (e : Ending) (w' : World) : Prop :=
  Below w.heap.size w w' ∧
  ((∃ ns A' c', TurnOk fl es b ns ∧ e = .returned (.tuple #[.slice A' fl.length c', V1]) ∧ DRow w w' A A' (setA fl ns b)) ∨
   ((∀ ns, ¬ TurnOk fl es b ns) ∧ e = .returned (.tuple #[.slice A fl.length c, V2])))
set_option maxRecDepth 100000 in
set_option maxHeartbeats 8000000 in
theorem dturn_any {w : World} {B BE c c' : Nat} {A E : Option Addr} {fl : List Bool} (es : List (Int × Int)) (b : Bool) (hI : ∀ e ∈ es, InI e) (hl : fl.length ≤ 65536) (hR : Reads w B 1 A fl.length (flagsS fl)) (hB : B ≤ w.heap.size) (hE : ExtR w BE E es) (hBE : BE ≤ w.heap.size) (hle : es.length ≤ 65536) :
    Calls Try.prog 34 #[.slice A fl.length c, .slice E es.length c', .bool b] w (DTurn w A c fl es b (.bool true) (.bool false)) := by
  have HI := Lib.hid hI
  have HE := Lib.hid hE
  have HR := Lib.hid (hR.more hB)
  clear hI hE hR
  go_enter Try.func34, Try.ntmps34
  go_wp2
  go_loopw [8, 9] (fun v i wr => ∃ (k : Nat) (ns : List (Nat × Nat)) (A' : Option Addr) (c' : Nat), k ≤ es.length ∧ i = .int .i64 k ∧ v = .slice A' fl.length c' ∧ TurnOk fl (es.take k) b ns ∧ DRow w wr A A' (setA fl ns b) ∧ Below w.heap.size w wr) (fun _ i _ => es.length - (intS i).toNat)
  case atStart => exact ⟨0, [], A, c, by omega, rfl, rfl, ⟨rfl, by simp, trivial⟩, ⟨by simpa [setA] using HR.out, .inl rfl⟩, Below.refl _ _⟩
  case round =>
    obtain ⟨k, ns, A', c2, hk, rfl, rfl, ht, hD, hb⟩ := hrel
    obtain ⟨wo, hwo⟩ : ∃ wo, wo = wr := ⟨_, rfl⟩
    subst hwo
    have hfl : (setA fl ns b).length = fl.length := ht.2.2.len
    by_cases hlt : k < es.length
    · obtain ⟨ad, e, rfl, hab, he, a0, a1⟩ := (HE.out.only (Only.of_below hb []) hBE (fun _ _ => by simp)).get hlt
      have hie : InI e := HI.out e (List.mem_of_getElem? he)
      obtain ⟨⟨i1, i2⟩, i3, i4⟩ := hie
      have htk := List.take_add_one (l := es) (i := k)
      rw [he] at htk
      have hsp : es = es.take k ++ e :: es.drop (k + 1) := by
        have h0 := (List.take_append_drop k es).symm
        rwa [List.drop_eq_getElem_cons hlt, show es[k] = e by rw [List.getElem?_eq_getElem hlt] at he; injection he] at h0
      have hno : ¬ AllE (setA fl ns b) e (!b) → ∀ ms, ¬ TurnOk fl es b ms := fun h => by rw [hsp]; exact ht.stop h
      have hyes : AllE (setA fl ns b) e (!b) → ∃ x y : Nat, e = ((x : Int), (y : Int)) ∧ TurnOk fl (es.take (k + 1)) b (ns ++ [(x, y)]) := fun h => by
        obtain ⟨x, y, h1, h2, h3⟩ := ht.snoc h
        exact ⟨x, y, h1, by rw [htk]; exact h3⟩
      have HN := Lib.hid (And.intro hno hyes)
      have HX := Lib.hid (And.intro hD hb)
      have hbs := hb.size
      generalize hF : setA fl ns b = f1 at *
      have HF := Lib.hid hF
      have HNS := Lib.hid (show ∀ x y, setA fl (ns ++ [(x, y)]) b = setR f1 x y b from fun x y => by rw [setA_app, hF]; rfl)
      have hwk : IntKind.i64.wrap ((k : Int) + 1) = (k : Int) + 1 := by rw [IntKind.wrap_i64]; omega
      have hba : ∀ o, Below w.heap.size w (wo.alloc o) := fun o => hb.alloc hbs o
      have HBA := Lib.hid hba
      clear hno hyes htk hsp he ht hD hb hF hba
      by_cases h1 : e.2 < 1
      · have hd1 : decide (e.2 < 1) = true := decide_eq_true h1
        have hn := HN.out.1 (fun ⟨x, y, h2, h3, h4⟩ => by have h5 := congrArg Prod.fst h2; have h6 := congrArg Prod.snd h2; simp only at h5 h6; omega)
        have HQ := Lib.hid hn
        clear hn
        go_wp2_with (have _h := a0; refine wpList_load_ext rfl (.tmp 21) rfl _ rfl e a0 a1 ?_; clear _h a0 a1)
        go_ret2
        exact ⟨HBA.out _, .inr ⟨HQ.out, rfl⟩⟩
      · have hd1 : decide (e.2 < 1) = false := decide_eq_false h1
        by_cases h2 : (fl.length : Int) < e.2
        · have hd2 : decide ((fl.length : Int) < e.2) = true := decide_eq_true h2
          have hn := HN.out.1 (fun ⟨x, y, h2, h3, h4⟩ => by have h5 := congrArg Prod.fst h2; have h6 := congrArg Prod.snd h2; simp only at h5 h6; have := h4.1; omega)
          have HQ := Lib.hid hn
          clear hn
          go_wp2_with (have _h := a0; refine wpList_load_ext rfl (.tmp 21) rfl _ rfl e a0 a1 ?_; clear _h a0 a1)
          go_ret2
          exact ⟨HBA.out _, .inr ⟨HQ.out, rfl⟩⟩
        · have hd2 : decide ((fl.length : Int) < e.2) = false := decide_eq_false h2
          by_cases h3 : e.1 < 0
          · have hd3 : decide (e.1 < 0) = true := decide_eq_true h3
            have hn := HN.out.1 (fun ⟨x, y, h2, h3, h4⟩ => by have h5 := congrArg Prod.fst h2; have h6 := congrArg Prod.snd h2; simp only at h5 h6; omega)
            have HQ := Lib.hid hn
            clear hn
            go_wp2_with (have _h := a0; refine wpList_load_ext rfl (.tmp 21) rfl _ rfl e a0 a1 ?_; clear _h a0 a1)
            go_ret2
            exact ⟨HBA.out _, .inr ⟨HQ.out, rfl⟩⟩
          · have hd3 : decide (e.1 < 0) = false := decide_eq_false h3
            obtain ⟨ex, ey⟩ := e
            simp only at *
            obtain ⟨x, rfl⟩ : ∃ n : Nat, ex = n := ⟨ex.toNat, by omega⟩
            obtain ⟨y, rfl⟩ : ∃ n : Nat, ey = n := ⟨ey.toNat, by omega⟩
            have hwl : IntKind.i64.wrap ((fl.length : Int) - (y : Int)) = (fl.length : Int) - (y : Int) := by rw [IntKind.wrap_i64]; omega
            by_cases h4 : (fl.length : Int) - (y : Int) < (x : Int)
            · have hd4 : decide ((fl.length : Int) - (y : Int) < (x : Int)) = true := decide_eq_true h4
              have hn := HN.out.1 (fun ⟨x', y', h2, h3, h4⟩ => by injection h2 with h5 h6; have := h4.1; omega)
              have HQ := Lib.hid hn
              clear hn
              go_wp2_with (have _h := a0; refine wpList_load_ext rfl (.tmp 21) rfl _ rfl ((x : Int), (y : Int)) a0 a1 ?_; clear _h a0 a1)
              go_ret2
              exact ⟨HBA.out _, .inr ⟨HQ.out, rfl⟩⟩
            · have hd4 : decide ((fl.length : Int) - (y : Int) < (x : Int)) = false := decide_eq_false h4
              have K1 : Blk (wo.alloc (.cells #[.int .i64 (x : Int), .int .i64 (y : Int)] 45)) wo.heap.size 45 #[.int .i64 (x : Int), .int .i64 (y : Int)] := Blk.new _ _ _
              have R1 : Reads (wo.alloc (.cells #[.int .i64 (x : Int), .int .i64 (y : Int)] 45)) (wo.alloc (.cells #[.int .i64 (x : Int), .int .i64 (y : Int)] 45)).heap.size 1 A' f1.length (flagsS f1) := by
                have := HX.out.1.reads.alloc (Nat.le_refl _) (.cells #[.int .i64 (x : Int), .int .i64 (y : Int)] 45)
                exact this.more (by simp)
              have HY := Lib.hid (And.intro K1 (And.intro R1 (HBA.out (.cells #[.int .i64 (x : Int), .int .i64 (y : Int)] 45))))
              have hz1 : (wo.alloc (.cells #[.int .i64 (x : Int), .int .i64 (y : Int)] 45)).heap.size = wo.heap.size + 1 := World.size_alloc _ _
              clear K1 R1
              go_wp2_with (have _h := a0; refine wpList_load_ext rfl (.tmp 21) rfl _ rfl ((x : Int), (y : Int)) a0 a1 ?_; clear _h a0 a1)
              clear hd1 hd2 hd3 hd4
              generalize wo.alloc (.cells #[.int .i64 (x : Int), .int .i64 (y : Int)] 45) = w1 at *
              generalize hgb : wo.heap.size = gb at *
              have HZ1 := Lib.hid hz1
              clear hz1
              go_loopw [11] (fun i wi => ∃ j : Nat, j ≤ y ∧ i = .int .i64 ((x + j : Nat) : Int) ∧ wi = w1 ∧ ∀ j', j' < j → f1[x + j']? = some (!b)) (fun i _ => x + y - (intS i).toNat)
              case atStart => exact ⟨0, by omega, by simp, by trivial, fun j' h => by omega⟩
              case round =>
                obtain ⟨j, hj, rfl, rfl, hall⟩ := hrel
                have p0 : wr.cell? ⟨gb, 0, none⟩ = some (.int .i64 (x : Int)) := HY.out.1.cell 0
                have p1 : wr.cell? ⟨gb, 1, none⟩ = some (.int .i64 (y : Int)) := HY.out.1.cell 1
                have hwe : IntKind.i64.wrap ((x : Int) + (y : Int)) = (x : Int) + (y : Int) := by rw [IntKind.wrap_i64]; omega
                have HALL := Lib.hid hall
                clear hall
                by_cases hlj : j < y
                · have hd : decide (((x + j : Nat) : Int) < (x : Int) + (y : Int)) = true := decide_eq_true (by omega)
                  obtain ⟨ad2, b', rfl, -, hb', hc'⟩ := flags_get HY.out.2.1 (show x + j < f1.length by omega)
                  have hix : decide (((x + j : Nat) : Int) < (fl.length : Int)) = true := decide_eq_true (by omega)
                  have hix2 : ((x + j : Nat) : Int) < (fl.length : Int) := by omega
                  have hge : (0 : Int) ≤ ((x + j : Nat) : Int) := by omega
                  have hwj : IntKind.i64.wrap (((x + j : Nat) : Int) + 1) = ((x + (j + 1) : Nat) : Int) := by rw [IntKind.wrap_i64]; omega
                  have HB' := Lib.hid hb'
                  clear hb'
                  by_cases hbb : b' = b
                  · have hq : (b' == b) = true := by simp [hbb]
                    have hn := HN.out.1 (fun ⟨x', y', h2, h3, h4⟩ => by
                      injection h2 with h5 h6
                      have h5' : x = x' := by omega
                      have h6' : y = y' := by omega
                      subst h5' h6'
                      have := h4.2 (x + j) (by omega) (by omega)
                      rw [HB'.out, hbb] at this
                      cases b <;> simp at this)
                    have HQ := Lib.hid hn
                    have HBB := Lib.hid hbb
                    clear hn hbb
                    generalize hxj : x + j = xj at *
                    go_wp2
                    go_ret2
                    exact ⟨HY.out.2.2, .inr ⟨HQ.out, rfl⟩⟩
                  · have hq : (b' == b) = false := by simpa using hbb
                    have HBB := Lib.hid (show f1[x + j]? = some (!b) by rw [HB'.out]; cases b <;> cases b' <;> simp_all)
                    clear hbb
                    have HXJ : Hid (∃ xj, xj = x + j) := Lib.hid ⟨_, rfl⟩
                    generalize hxj : x + j = xj at *
                    go_wp2
                    go_roundw
                    case rel => exact ⟨j + 1, by omega, rfl, by trivial, fun j' h => by
                      rcases Nat.lt_succ_iff_lt_or_eq.1 h with h | rfl
                      · exact HALL.out j' h
                      · rw [hxj]; exact HBB.out⟩
                    case measure => simp [intS]; omega
                · obtain rfl : j = y := by omega
                  have hd : decide (((x + j : Nat) : Int) < (x : Int) + (j : Int)) = false := decide_eq_false (by omega)
                  have hall2 : AllE f1 ((x : Int), (j : Int)) (!b) := ⟨x, j, rfl, by omega, by omega, fun q h1 h2 => by have := HALL.out (q - x) (by omega); rwa [show x + (q - x) = q by omega] at this⟩
                  obtain ⟨x', y', hxy, hok⟩ := HN.out.2 hall2
                  injection hxy with h5 h6
                  have h5' : x = x' := by omega
                  have h6' : j = y' := by omega
                  subst h5' h6'
                  have q0 : wr.cell? ⟨gb, 0, none⟩ = some (.int .i64 (x : Int)) := p0
                  have q1 : wr.cell? ((⟨gb, 0, none⟩ : Addr).add 1) = some (.int .i64 (j : Int)) := p1
                  have HW := Lib.hid (dwith_any (w := wr) (c := c2) x j b (by omega) (by omega) HY.out.2.1 (Nat.le_refl _))
                  rw [hfl] at HW
                  have HOK := Lib.hid hok
                  clear hok hall2 p0
                  go_wp2_with (have _h := q1; refine wpList_load_ext rfl (.tmp 10) rfl _ rfl ((x : Int), (j : Int)) q0 q1 ?_; clear _h q1)
                  refine HW.out.mono ?_
                  rintro e5 w5 ⟨v5, rfl, hv5, hb5⟩
                  obtain ⟨A5, c5, rfl⟩ := hv5.form
                  have hl5 : (setR f1 x j b).length = fl.length := by rw [setR_len (by omega)]; exact hfl
                  have D5 : DRow w w5 A A5 (setR f1 x j b) := ⟨hv5.reads.2, .inr fun ad3 hA => by
                    subst hA
                    have := (World.ownsRow.lt hv5 ad3.block rfl).1
                    have := HZ1.out
                    omega⟩
                  have B5 : Below w.heap.size w w5 := HY.out.2.2.trans (hb5.mono (by have := HZ1.out; omega))
                  have HL := Lib.hid (And.intro D5 B5)
                  clear D5 B5 hv5 hb5 HW
                  rw [hl5]
                  go_wp2
                  go_roundw
                  case rel => exact ⟨k + 1, ns ++ [(x, j)], A5, c5, by omega, by go_num, rfl, HOK.out, by rw [HNS.out]; exact HL.out.1, HL.out.2⟩
                  case measure => simp [intS]; omega
    · obtain rfl : k = es.length := by omega
      have HX := Lib.hid (And.intro ht (And.intro hD hb))
      clear ht hD hb
      go_wp2
      go_ret2
      have h := HX.out.1
      rw [List.take_length] at h
      exact ⟨HX.out.2.2, .inl ⟨ns, A', c2, h, rfl, HX.out.2.1⟩⟩
set_option maxHeartbeats 1000000 in
theorem dgive_any {w : World} {B BE c c' : Nat} {A E : Option Addr} {fl : List Bool} (es : List (Int × Int)) (hI : ∀ e ∈ es, InI e) (hl : fl.length ≤ 65536) (hR : Reads w B 1 A fl.length (flagsS fl)) (hB : B ≤ w.heap.size) (hE : ExtR w BE E es) (hBE : BE ≤ w.heap.size) (hle : es.length ≤ 65536) :
    Calls Try.prog 19 #[.slice A fl.length c, .slice E es.length c'] w (DTurn w A c fl es true (.int .i64 0) (.int .i64 1)) := by
  have HT := Lib.hid (dturn_any (c := c) (c' := c') es true hI hl hR hB hE hBE hle)
  clear hI hE hR
  go_enter Try.func19, Try.ntmps19
  go_wp2_with fail
  refine HT.out.mono ?_
  rintro e w1 ⟨hb, ⟨ns, A', c2, h1, rfl, h3⟩ | ⟨h1, rfl⟩⟩
  · have HX := Lib.hid (And.intro hb (And.intro h1 h3))
    clear hb h1 h3
    go_wp2
    go_ret2
    exact ⟨HX.out.1, .inl ⟨ns, A', c2, HX.out.2.1, rfl, HX.out.2.2⟩⟩
  · have HX := Lib.hid (And.intro hb h1)
    clear hb h1
    go_wp2
    go_ret2
    exact ⟨HX.out.1, .inr ⟨HX.out.2, rfl⟩⟩
set_option maxHeartbeats 1000000 in
theorem dclaim_any {w : World} {B BE c c' : Nat} {A E : Option Addr} {fl : List Bool} (es : List (Int × Int)) (hI : ∀ e ∈ es, InI e) (hl : fl.length ≤ 65536) (hR : Reads w B 1 A fl.length (flagsS fl)) (hB : B ≤ w.heap.size) (hE : ExtR w BE E es) (hBE : BE ≤ w.heap.size) (hle : es.length ≤ 65536) :
    Calls Try.prog 21 #[.slice A fl.length c, .slice E es.length c'] w (DTurn w A c fl es false (.int .i64 0) (.int .i64 1)) := by
  have HT := Lib.hid (dturn_any (c := c) (c' := c') es false hI hl hR hB hE hBE hle)
  clear hI hE hR
  go_enter Try.func21, Try.ntmps21
  go_wp2_with fail
  refine HT.out.mono ?_
  rintro e w1 ⟨hb, ⟨ns, A', c2, h1, rfl, h3⟩ | ⟨h1, rfl⟩⟩
  · have HX := Lib.hid (And.intro hb (And.intro h1 h3))
    clear hb h1 h3
    go_wp2
    go_ret2
    exact ⟨HX.out.1, .inl ⟨ns, A', c2, HX.out.2.1, rfl, HX.out.2.2⟩⟩
  · have HX := Lib.hid (And.intro hb h1)
    clear hb h1
    go_wp2
    go_ret2
    exact ⟨HX.out.1, .inr ⟨HX.out.2, rfl⟩⟩
end Go.Proofs.Ytliockcbnmbhnaa
