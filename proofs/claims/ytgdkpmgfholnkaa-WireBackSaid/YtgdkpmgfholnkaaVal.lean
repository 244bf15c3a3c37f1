/-
  A value of a kind, written by both. Conditions: the value reads as it is said to; the writer lies apart from it.
-/
import Derived.Test.YtgdkpmgfholnkaaAliveW
namespace Go.Proofs.Ytgdkpmgfholnkaa
open Go.RowKit
set_option linter.unusedSimpArgs false
set_option linter.unusedVariables false
structure ValV where
  kind : Int
  n : Int
  A : Option Addr
  c : Nat
  b : List Nat
  A2 : Option Addr
  c2 : Nat
  l : List Int
def ValV.cs (v : ValV) : List Value := [.int .i64 v.kind, .int .i64 v.n, .slice v.A v.b.length v.c, .slice v.A2 v.l.length v.c2]
/-- what it points to is there, below block B -/
structure ValV.At (v : ValV) (w : World) (B : Nat) : Prop where
  b : Bytes w B v.A v.b.length v.b
  l : Ints w B v.A2 v.l.length v.l
  under : ∀ a, (v.A = some a ∧ 0 < v.b.length) ∨ (v.A2 = some a ∧ 0 < v.l.length) → a.block < w.heap.size
/-- the document's bytes -/
def ValV.bytes (v : ValV) : List Nat :=
  if v.kind = 0 then [(v.n % 256).toNat] else if v.kind = 2 then [if v.n = 1 then 1 else 0] else if v.kind = 3 then numB v.b.length ++ v.b else if v.kind = 4 then numB v.b.length ++ v.b else if v.kind = 5 then numsB v.l else numB v.n
def ValV.size (v : ValV) : Nat := 8 + v.b.length + 8 * v.l.length
theorem ValV.bytes_len (v : ValV) : v.bytes.length ≤ v.size := by
  unfold ValV.bytes ValV.size
  have := numsB_len v.l
  repeat' split
  all_goals (try simp only [List.length_append, numB_len, List.length_singleton])
  all_goals omega
theorem numsB_lt (l : List Int) : ∀ b ∈ numsB l, b < 256 := by
  intro b hb
  rcases List.mem_append.1 hb with hb | hb
  · exact numB_lt _ b hb
  · obtain ⟨x, _, hx⟩ := List.mem_flatMap.1 hb
    exact numB_lt x b hx
theorem ValV.At.only {v : ValV} {w w' : World} {B : Nat} {F : List Nat} (h : v.At w B) (ho : Only F w w') (ha : ∀ a, (v.A = some a ∧ 0 < v.b.length) ∨ (v.A2 = some a ∧ 0 < v.l.length) → a.block ∉ F) : v.At w' B :=
  ⟨h.b.only ho (fun a e hn => ha a (.inl ⟨e, hn⟩)), h.l.only ho (fun a e hn => ha a (.inr ⟨e, hn⟩)), fun a e => Nat.lt_of_lt_of_le (h.under a e) ho.size⟩
theorem ValV.At.since {v : ValV} {w w' : World} {B : Nat} (h : v.At w B) (hb : Below w.heap.size w w') : v.At w' B :=
  ⟨h.b.since hb, Reads.since h.l hb, fun a e => Nat.lt_of_lt_of_le (h.under a e) hb.size⟩
theorem write_any (w : World) (base : Nat) (F : List Nat) (p : Option Addr) (bs : List Nat) (v : ValV) (B : Nat) (h : Wr w base F p bs) (hv : v.At w B) (hap : ∀ a, (v.A = some a ∧ 0 < v.b.length) ∨ (v.A2 = some a ∧ 0 < v.l.length) → a.block ∉ F) (hB : base ≤ w.heap.size) (hl : bs.length + v.size ≤ 800000) :
    Calls Try.prog 14 #[.pointer p, .agg v.cs.toArray] w fun e w' => ∃ rv, e = .returned rv ∧ Own w' w.heap.size rv v.bytes.length v.bytes ∧ WTo w base F p (plus p bs v.bytes) w' ∧ (∀ b ∈ v.bytes, b < 256) := by
  have hsz : v.size = 8 + v.b.length + 8 * v.l.length := rfl
  have b0 := below_alloc w (.cells v.cs.toArray 46)
  have K0 := Lib.hid (Blk.new w 46 v.cs.toArray)
  have H0 := Lib.hid (h.below b0)
  have V0 := Lib.hid (hv.since b0)
  have hgF : w.heap.size ∉ F := fun hm => by have := h.under _ hm; omega
  have hB0 : base ≤ (w.alloc (.cells v.cs.toArray 46)).heap.size := Nat.le_trans hB b0.size
  have hb0 := Lib.hid b0
  have q0 : (w.alloc (.cells v.cs.toArray 46)).cell? ⟨w.heap.size, 0, none⟩ = some (.int .i64 v.kind) := by rw [K0.out.cell]; rfl
  have q1 : (w.alloc (.cells v.cs.toArray 46)).cell? ⟨w.heap.size, 1, none⟩ = some (.int .i64 v.n) := by rw [K0.out.cell]; rfl
  have q2 : (w.alloc (.cells v.cs.toArray 46)).cell? ⟨w.heap.size, 2, none⟩ = some (.slice v.A v.b.length v.c) := by rw [K0.out.cell]; rfl
  have q3 : (w.alloc (.cells v.cs.toArray 46)).cell? ⟨w.heap.size, 3, none⟩ = some (.slice v.A2 v.l.length v.c2) := by rw [K0.out.cell]; rfl
  have fin : ∀ (w2 w3 : World) (rv : Value) (bs2 : List Nat) (n2 : Nat), WTo (w.alloc (.cells v.cs.toArray 46)) base F p (plus p bs bs2) w2 → Below w2.heap.size w2 w3 → Own w3 w2.heap.size rv n2 bs2 → WTo w base F p (plus p bs bs2) w3 ∧ Own w3 w.heap.size rv bs2.length bs2 := by
    intro w2 w3 rv bs2 n2 ht hb ho
    obtain ⟨F2, k1, k2, k3⟩ := ht
    have hle : w.heap.size ≤ w2.heap.size := Nat.le_trans b0.size k2.size
    refine ⟨⟨F2, k1.below hb, ((Only.of_below b0 F).trans k2 (Fresh.refl _ _)).trans (Only.of_below hb F2) (fun k hk => (k3 k hk).imp id (fun h => Nat.le_trans b0.size h)), fun k hk => (k3 k hk).imp id (fun h => Nat.le_trans b0.size h)⟩, ?_⟩
    have := ho.len
    subst this
    exact ho.weaken hle
  have FIN := Lib.hid fin
  clear h hv b0 fin
  unfold ValV.bytes
  by_cases k0 : v.kind = 0
  · have hd0 : (v.kind == 0) = true := by simpa using k0
    rw [if_pos k0]
    obtain ⟨b, hb, hb256, hbe⟩ : ∃ b : Nat, v.n % 256 = (b : Int) ∧ b < 256 ∧ b = (v.n % 256).toNat := ⟨(v.n % 256).toNat, by omega, by omega, rfl⟩
    rw [← hbe]
    clear k0 hbe q2 q3
    go_enter Try.func14, Try.ntmps14
    go_wp2_with fail
    refine (wbyte_any _ base F p bs b H0.out (by omega) hB0 hb256).mono ?_
    rintro e w2 ⟨rfl, t2⟩
    have K2 : Blk w2 w.heap.size 46 v.cs.toArray := by
      obtain ⟨F2, _, o2, _⟩ := t2
      exact K0.out.of (o2.block _ K0.out.lt hgF)
    have r1 : w2.cell? ⟨w.heap.size, 1, none⟩ = some (.int .i64 v.n) := by rw [K2.cell]; rfl
    have HT := Lib.hid t2
    clear t2 K2 q0 q1
    go_wp2
    go_ret
    have hown : Own (w2.alloc (.cells (u8s [b]).toArray 5)) w2.heap.size (.slice (some ⟨w2.heap.size, 0, none⟩) 1 1) 1 [b] :=
      ⟨rfl, .inr ⟨w2.heap.size, 1, _, rfl, Nat.le_refl _, heap_alloc_new w2 _, Nat.le_refl _, by simp [maxLen], rfl, rfl⟩⟩
    obtain ⟨h1, h2⟩ := FIN.out w2 _ _ [b] 1 HT.out (below_alloc w2 _) hown
    exact ⟨_, rfl, h2, h1, by simpa using hb256⟩
  · have hd0 : (v.kind == 0) = false := by simpa using k0
    rw [if_neg k0]
    by_cases k2 : v.kind = 2
    · have hd2 : (v.kind == 2) = true := by simpa using k2
      rw [if_pos k2]
      by_cases k1 : v.n = 1
      · have hn1 : (v.n == 1) = true := by simpa using k1
        rw [if_pos k1]
        clear k1 k0 k2 q2 q3
        go_enter Try.func14, Try.ntmps14
        go_wp2_with fail
        refine (wflag_any _ base F p bs true H0.out (by omega) hB0).mono ?_
        rintro e w2 ⟨rfl, t2⟩
        have K2 : Blk w2 w.heap.size 46 v.cs.toArray := by
          obtain ⟨F2, _, o2, _⟩ := t2
          exact K0.out.of (o2.block _ K0.out.lt hgF)
        have r1 : w2.cell? ⟨w.heap.size, 1, none⟩ = some (.int .i64 v.n) := by rw [K2.cell]; rfl
        have HT := Lib.hid t2
        clear t2 K2 q0 q1
        go_wp2
        go_ret
        have hown : Own (w2.alloc (.cells (u8s [1]).toArray 5)) w2.heap.size (.slice (some ⟨w2.heap.size, 0, none⟩) 1 1) 1 [1] :=
          ⟨rfl, .inr ⟨w2.heap.size, 1, _, rfl, Nat.le_refl _, heap_alloc_new w2 _, Nat.le_refl _, by simp [maxLen], rfl, rfl⟩⟩
        obtain ⟨h1, h2⟩ := FIN.out w2 _ _ [1] 1 HT.out (below_alloc w2 _) hown
        exact ⟨_, rfl, h2, h1, by simp⟩
      · have hn1 : (v.n == 1) = false := by simpa using k1
        rw [if_neg k1]
        clear k1 k0 k2 q2 q3
        go_enter Try.func14, Try.ntmps14
        go_wp2_with fail
        refine (wflag_any _ base F p bs false H0.out (by omega) hB0).mono ?_
        rintro e w2 ⟨rfl, t2⟩
        have K2 : Blk w2 w.heap.size 46 v.cs.toArray := by
          obtain ⟨F2, _, o2, _⟩ := t2
          exact K0.out.of (o2.block _ K0.out.lt hgF)
        have r1 : w2.cell? ⟨w.heap.size, 1, none⟩ = some (.int .i64 v.n) := by rw [K2.cell]; rfl
        have HT := Lib.hid t2
        clear t2 K2 q0 q1
        go_wp2
        go_ret
        have hown : Own (w2.alloc (.cells (u8s [0]).toArray 5)) w2.heap.size (.slice (some ⟨w2.heap.size, 0, none⟩) 1 1) 1 [0] :=
          ⟨rfl, .inr ⟨w2.heap.size, 1, _, rfl, Nat.le_refl _, heap_alloc_new w2 _, Nat.le_refl _, by simp [maxLen], rfl, rfl⟩⟩
        obtain ⟨h1, h2⟩ := FIN.out w2 _ _ [0] 1 HT.out (below_alloc w2 _) hown
        exact ⟨_, rfl, h2, h1, by simp⟩
    · have hd2 : (v.kind == 2) = false := by simpa using k2
      rw [if_neg k2]
      by_cases k3 : v.kind = 3
      · have hd3 : (v.kind == 3) = true := by simpa using k3
        rw [if_pos k3]
        clear k0 k2 k3
        go_enter Try.func14, Try.ntmps14
        go_wp2_with fail
        refine (wbytes_any _ base F p bs v.b B v.A v.b.length v.c H0.out V0.out.b (fun a e hn => hap a (.inl ⟨e, hn⟩)) (by omega) hB0).mono ?_
        rintro e w2 ⟨rfl, t2⟩
        have K2 : Blk w2 w.heap.size 46 v.cs.toArray := by
          obtain ⟨F2, _, o2, _⟩ := t2
          exact K0.out.of (o2.block _ K0.out.lt hgF)
        have V2 : v.At w2 B := by
          obtain ⟨F2, _, o2, _⟩ := t2
          exact V0.out.only o2 hap
        have r1 : w2.cell? ⟨w.heap.size, 1, none⟩ = some (.int .i64 v.n) := by rw [K2.cell]; rfl
        have r2 : w2.cell? ⟨w.heap.size, 2, none⟩ = some (.slice v.A v.b.length v.c) := by rw [K2.cell]; rfl
        have r3 : w2.cell? ⟨w.heap.size, 3, none⟩ = some (.slice v.A2 v.l.length v.c2) := by rw [K2.cell]; rfl
        have HT := Lib.hid t2
        have HV2 := Lib.hid V2
        clear t2 K2 V2 q0 q1 q2 q3
        go_wp2_with fail
        refine (dbytes_any v.A v.b.length v.c B v.b w2 HV2.out.b (by omega)).mono ?_
        rintro e w3 ⟨rv, rfl, h3, b3⟩
        obtain ⟨h1, h2⟩ := FIN.out w2 w3 rv _ _ HT.out b3 h3
        have HR := Lib.hid (And.intro h2 h1)
        clear h1 h2 h3 b3
        go_wp2
        go_ret
        exact ⟨rv, rfl, HR.out.1, HR.out.2, fun b hb => (List.mem_append.1 hb).elim (numB_lt _ b) (HV2.out.b.2 b)⟩
      · have hd3 : (v.kind == 3) = false := by simpa using k3
        rw [if_neg k3]
        by_cases k4 : v.kind = 4
        · have hd4 : (v.kind == 4) = true := by simpa using k4
          rw [if_pos k4]
          clear k0 k2 k3 k4
          have kc := str_of (P := Try.prog) V0.out.b v.c 22 9 5 Try.underlying22 Try.underlying5 Try.underlying9
          go_enter Try.func14, Try.ntmps14
          go_wp2_with fail
          refine (wtext_any _ base F p bs v.b H0.out V0.out.b.2 (by omega) hB0).mono ?_
          rintro e w2 ⟨rfl, t2⟩
          have K2 : Blk w2 w.heap.size 46 v.cs.toArray := by
            obtain ⟨F2, _, o2, _⟩ := t2
            exact K0.out.of (o2.block _ K0.out.lt hgF)
          have V2 : v.At w2 B := by
            obtain ⟨F2, _, o2, _⟩ := t2
            exact V0.out.only o2 hap
          have r1 : w2.cell? ⟨w.heap.size, 1, none⟩ = some (.int .i64 v.n) := by rw [K2.cell]; rfl
          have r2 : w2.cell? ⟨w.heap.size, 2, none⟩ = some (.slice v.A v.b.length v.c) := by rw [K2.cell]; rfl
          have r3 : w2.cell? ⟨w.heap.size, 3, none⟩ = some (.slice v.A2 v.l.length v.c2) := by rw [K2.cell]; rfl
          have HT := Lib.hid t2
          have HV2 := Lib.hid V2
          clear t2 K2 V2 q0 q1 q2 q3
          go_wp2_with fail
          refine (dbytes_any v.A v.b.length v.c B v.b w2 HV2.out.b (by omega)).mono ?_
          rintro e w3 ⟨rv, rfl, h3, b3⟩
          obtain ⟨h1, h2⟩ := FIN.out w2 w3 rv _ _ HT.out b3 h3
          have HR := Lib.hid (And.intro h2 h1)
          clear h1 h2 h3 b3
          go_wp2
          go_ret
          exact ⟨rv, rfl, HR.out.1, HR.out.2, fun b hb => (List.mem_append.1 hb).elim (numB_lt _ b) (HV2.out.b.2 b)⟩
        · have hd4 : (v.kind == 4) = false := by simpa using k4
          rw [if_neg k4]
          by_cases k5 : v.kind = 5
          · have hd5 : (v.kind == 5) = true := by simpa using k5
            rw [if_pos k5]
            clear k0 k2 k3 k4 k5
            go_enter Try.func14, Try.ntmps14
            go_wp2_with fail
            refine (wnums_any _ base F p bs B v.A2 v.l.length v.c2 v.l H0.out V0.out.l (fun a e hn => hap a (.inr ⟨e, hn⟩)) (by omega) hB0).mono ?_
            rintro e w2 ⟨rfl, t2⟩
            have K2 : Blk w2 w.heap.size 46 v.cs.toArray := by
              obtain ⟨F2, _, o2, _⟩ := t2
              exact K0.out.of (o2.block _ K0.out.lt hgF)
            have V2 : v.At w2 B := by
              obtain ⟨F2, _, o2, _⟩ := t2
              exact V0.out.only o2 hap
            have r1 : w2.cell? ⟨w.heap.size, 1, none⟩ = some (.int .i64 v.n) := by rw [K2.cell]; rfl
            have r2 : w2.cell? ⟨w.heap.size, 2, none⟩ = some (.slice v.A v.b.length v.c) := by rw [K2.cell]; rfl
            have r3 : w2.cell? ⟨w.heap.size, 3, none⟩ = some (.slice v.A2 v.l.length v.c2) := by rw [K2.cell]; rfl
            have HT := Lib.hid t2
            have HV2 := Lib.hid V2
            clear t2 K2 V2 q0 q1 q2 q3
            go_wp2_with fail
            refine (dnums_any v.A2 v.l.length v.c2 B v.l w2 HV2.out.l (by omega)).mono ?_
            rintro e w3 ⟨rv, rfl, h3, b3⟩
            obtain ⟨h1, h2⟩ := FIN.out w2 w3 rv _ _ HT.out b3 h3
            have HR := Lib.hid (And.intro h2 h1)
            clear h1 h2 h3 b3
            go_wp2
            go_ret
            exact ⟨rv, rfl, HR.out.1, HR.out.2, numsB_lt v.l⟩
          · have hd5 : (v.kind == 5) = false := by simpa using k5
            rw [if_neg k5]
            clear k0 k2 k3 k4 k5
            go_enter Try.func14, Try.ntmps14
            go_wp2_with fail
            refine (wnum_any _ base F p bs v.n H0.out (by omega) hB0).mono ?_
            rintro e w2 ⟨rfl, t2⟩
            have K2 : Blk w2 w.heap.size 46 v.cs.toArray := by
              obtain ⟨F2, _, o2, _⟩ := t2
              exact K0.out.of (o2.block _ K0.out.lt hgF)
            have V2 : v.At w2 B := by
              obtain ⟨F2, _, o2, _⟩ := t2
              exact V0.out.only o2 hap
            have r1 : w2.cell? ⟨w.heap.size, 1, none⟩ = some (.int .i64 v.n) := by rw [K2.cell]; rfl
            have r2 : w2.cell? ⟨w.heap.size, 2, none⟩ = some (.slice v.A v.b.length v.c) := by rw [K2.cell]; rfl
            have r3 : w2.cell? ⟨w.heap.size, 3, none⟩ = some (.slice v.A2 v.l.length v.c2) := by rw [K2.cell]; rfl
            have HT := Lib.hid t2
            have HV2 := Lib.hid V2
            clear t2 K2 V2 q0 q1 q2 q3
            go_wp2_with fail
            refine (dnum_any v.n w2).mono ?_
            rintro e w3 ⟨rv, rfl, h3, b3⟩
            obtain ⟨h1, h2⟩ := FIN.out w2 w3 rv _ _ HT.out b3 h3
            have HR := Lib.hid (And.intro h2 h1)
            clear h1 h2 h3 b3
            go_wp2
            go_ret
            exact ⟨rv, rfl, HR.out.1, HR.out.2, numB_lt v.n⟩
/-! ### a list of values -/
theorem vals_at : ∀ (os : List ValV) (k : Nat) (o : ValV), os[k]? = some o → ∀ j, j < 4 → (os.flatMap ValV.cs)[k * 4 + j]? = o.cs[j]?
  | [], k, o, h, _, _ => by simp at h
  | a :: l, 0, o, h, j, hj => by
    simp at h
    subst h
    rw [List.flatMap_cons, List.getElem?_append_left (by simp [ValV.cs]; omega)]
    simp
  | a :: l, k + 1, o, h, j, hj => by
    rw [List.flatMap_cons, List.getElem?_append_right (by simp [ValV.cs]; omega)]
    have := vals_at l k o (by simpa using h) j hj
    rw [show (k + 1) * 4 + j - a.cs.length = k * 4 + j by simp [ValV.cs]; omega]
    exact this
theorem vals_len (os : List ValV) : (os.flatMap ValV.cs).length = os.length * 4 := by
  induction os with
  | nil => rfl
  | cons o l ih => rw [List.flatMap_cons, List.length_append, ih]; simp [ValV.cs]; omega
def VCells (w : World) (B : Nat) (A : Option Addr) (m : Nat) (os : List ValV) : Prop := Reads w B 4 A m (os.flatMap ValV.cs)
theorem VCells.len {w : World} {B m : Nat} {A : Option Addr} {os : List ValV} (h : VCells w B A m os) : os.length = m := by
  have h1 := h.1
  rw [vals_len] at h1
  omega
theorem VCells.get {w : World} {B m k : Nat} {A : Option Addr} {os : List ValV} (h : VCells w B A m os) (hk : k < m) : ∃ ad o, A = some ad ∧ os[k]? = some o ∧ ∀ j v, o.cs[j]? = some v → w.cell? ((ad.add (k * 4)).add j) = some v := by
  have hl := h.len
  obtain ⟨ad, rfl, hb, hc⟩ := h.2 (by omega)
  have ho : os[k]? = some os[k] := List.getElem?_eq_getElem (by omega)
  refine ⟨ad, os[k], rfl, ho, fun j v hv => ?_⟩
  have hj : j < 4 := by
    rcases Nat.lt_or_ge j 4 with h' | h'
    · exact h'
    · rw [List.getElem?_eq_none (by simp [ValV.cs]; omega)] at hv; cases hv
  rw [add_of_add]
  exact hc _ _ (by rw [vals_at os k _ ho j hj]; exact hv)
theorem val_size : (Try.prog.info? 46).map (·.size) = some 4 := by kernel_rfl
theorem val_zero (w : World) : (zeroValue 46).run Try.prog w = .ok (.agg #[.int .i64 0, .int .i64 0, .slice none 0 0, .slice none 0 0]) w := by kernel_rfl
theorem ValV.one (o : ValV) : ∀ u ∈ o.cs, u.oneCell' = true := by
  intro u hu
  simp [ValV.cs] at hu
  rcases hu with rfl | rfl | rfl | rfl <;> rfl
theorem run_loadVar_at {P : Program} (w : World) (p : Addr) (ty : TypeId) (cs : List Value) (d : TypeDesc) (hc : ∀ j v, cs[j]? = some v → w.cell? (p.add j) = some v)
    (hu : P.underlying ty = some d) (hd : d.isRow = true) (hi : (P.info? ty).map (·.size) = some cs.length) :
    (loadVar ty p).run P w = .ok (.agg cs.toArray) w := by
  have hl : (loadCells p cs.length).run P w = .ok cs.toArray w := run_loadCells_list (P := P) w p cs hc
  cases hq : P.info? ty with
  | none => simp [hq] at hi
  | some i =>
    have hs : i.size = cs.length := by simpa [hq] using hi
    have hagg : (isAgg ty).run P w = .ok true w := by
      unfold isAgg
      rw [Sem.run_bind, run_underlying hu w]
      cases d <;> simp_all
    simp [loadVar, Sem.run_bind, hagg, sizeOf, typeInfo, hq, hs, hl]
theorem wpList_load_at {P : Program} {ops : Array Oper} {rest : List Oper} {op : Oper} {a : Act} {w : World} {Q : Exit → Act → World → Prop} (hgd : op.guard = none) (ty : TypeId) (x : Operand) (ho : op.op = .load ty x)
    (p : Addr) (hx : a.eval x = .pointer (some p)) (cs : List Value) (d : TypeDesc) (hc : ∀ j v, cs[j]? = some v → w.cell? (p.add j) = some v)
    (hu : P.underlying ty = some d) (hd : d.isRow = true) (hi : (P.info? ty).map (·.size) = some cs.length)
    (h : wpList P ops Q rest (a.put op.dst (.agg cs.toArray)) w) : wpList P ops Q (op :: rest) a w :=
  wpList_plain hgd fun _ hK => by
    unfold Oper.wp execOp
    simp only [ho, hx, Instr.loadAt, Instr.sureAddr, Sem.run_bind, Sem.run_pure, Result.andThen_ok, run_loadVar_at w p ty cs d hc hu hd hi]
    exact hK _ _ h
end Go.Proofs.Ytgdkpmgfholnkaa
