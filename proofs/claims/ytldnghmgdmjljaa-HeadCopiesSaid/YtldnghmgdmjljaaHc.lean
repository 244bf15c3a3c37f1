/-
  Names, objects, views of heads. Conditions: numbers are 64 bits wide, texts no more than a million.
-/
import Derived.Test.YtldnghmgdmjljaaHb
import Derived.Lib.ConvBytes
namespace Go.Proofs.Ytldnghmgdmjljaa
open Go.RowKit Go.BigFrame
set_option linter.unusedSimpArgs false
set_option linter.unusedVariables false
set_option maxRecDepth 100000
theorem wrap_in {n : Int} (h : I64 n) : IntKind.i64.wrap n = n := by
  unfold I64 at h
  rw [IntKind.wrap_i64]
  omega
theorem objs_range {size obj : Int} (h1 : I64 size) (h2 : I64 obj) : I64 (objsOf size obj) := by
  unfold I64 objsOf at *
  split
  · omega
  · rename_i h
    have a1 : 1 ≤ obj := by omega
    have a2 : 0 ≤ size - 1 := by omega
    have a3 : 0 ≤ (size - 1) / obj := Int.ediv_nonneg a2 (by omega)
    have a4 : (size - 1) / obj ≤ size - 1 := Int.ediv_le_self _ a2
    omega
theorem objects_any (size obj : Int) (h1 : I64 size) (h2 : I64 obj) (w : World) : Calls Try.prog 26 #[.int .i64 size, .int .i64 obj] w fun e w' => e = .returned (.int .i64 (objsOf size obj)) ∧ w = w' := by
  by_cases a : size < 1
  · have hd1 : decide (size < (1 : Int)) = true := decide_eq_true a
    have he : objsOf size obj = 0 := by unfold objsOf; rw [if_pos (.inl a)]
    rw [he]
    go_enter Try.func26, Try.ntmps26
    go_wp2
    go_ret
    exact ⟨rfl, rfl⟩
  · have hd1 : decide (size < (1 : Int)) = false := decide_eq_false a
    by_cases b : obj < 1
    · have hd2 : decide (obj < (1 : Int)) = true := decide_eq_true b
      have he : objsOf size obj = 0 := by unfold objsOf; rw [if_pos (.inr b)]
      rw [he]
      go_enter Try.func26, Try.ntmps26
      go_wp2
      go_ret
      exact ⟨rfl, rfl⟩
    · have hd2 : decide (obj < (1 : Int)) = false := decide_eq_false b
      have he : objsOf size obj = (size - 1) / obj + 1 := by unfold objsOf; rw [if_neg (by omega)]
      have hr := objs_range h1 h2
      rw [he] at hr ⊢
      have hq : (size - 1).tdiv obj = (size - 1) / obj := Int.tdiv_eq_ediv_of_nonneg (by omega)
      have w1 : IntKind.i64.wrap (size - 1) = size - 1 := wrap_in (by unfold I64 at *; omega)
      have w2 : IntKind.i64.wrap ((size - 1) / obj) = (size - 1) / obj := wrap_in (by have a3 : 0 ≤ (size - 1) / obj := Int.ediv_nonneg (by omega) (by omega); unfold I64 at *; clear w1 hq; omega)
      have w3 : IntKind.i64.wrap ((size - 1) / obj + 1) = (size - 1) / obj + 1 := wrap_in hr
      have hne : obj ≠ 0 := by omega
      have hne2 : (obj == 0) = false := by simpa using hne
      go_enter Try.func26, Try.ntmps26
      go_wp2
      go_ret
      exact ⟨rfl, rfl⟩
theorem isobj_any (n : Int) (w : World) : Calls Try.prog 40 #[.int .i64 n] w fun e w' => e = .returned (.bool (isObjB n)) ∧ w = w' := by
  unfold isObjB
  by_cases a : n = 16
  · subst a
    go_enter Try.func40, Try.ntmps40
    go_wp2
    go_ret
    exact ⟨rfl, rfl⟩
  have a' : (n == 16) = false := by simpa using a
  by_cases b : n = 32
  · subst b
    go_enter Try.func40, Try.ntmps40
    go_wp2
    go_ret
    exact ⟨rfl, rfl⟩
  have b' : (n == 32) = false := by simpa using b
  by_cases c : n = 64
  · subst c
    go_enter Try.func40, Try.ntmps40
    go_wp2
    go_ret
    exact ⟨rfl, rfl⟩
  have c' : (n == 64) = false := by simpa using c
  by_cases d : n = 128
  · subst d
    go_enter Try.func40, Try.ntmps40
    go_wp2
    go_ret
    exact ⟨rfl, rfl⟩
  have d' : (n == 128) = false := by simpa using d
  by_cases f : n = 256
  · subst f
    go_enter Try.func40, Try.ntmps40
    go_wp2
    go_ret
    exact ⟨rfl, rfl⟩
  have f' : (n == 256) = false := by simpa using f
  rw [a', b', c', d', f']
  go_enter Try.func40, Try.ntmps40
  go_wp2
  go_ret
  exact ⟨rfl, rfl⟩
theorem sign_cases (b : Nat) : (okSign b = true ∧ ((97 ≤ b ∧ b ≤ 122) ∨ (48 ≤ b ∧ b ≤ 57) ∨ b = 45)) ∨ (okSign b = false ∧ (b < 97 ∨ 122 < b) ∧ (b < 48 ∨ 57 < b) ∧ b ≠ 45) := by
  unfold okSign
  by_cases h1 : 97 ≤ b <;> by_cases h2 : b ≤ 122 <;> by_cases h3 : 48 ≤ b <;> by_cases h4 : b ≤ 57 <;> by_cases h5 : b = 45 <;> simp [h1, h2, h3, h4, h5] <;> omega
set_option maxHeartbeats 2000000 in
theorem named_any (bs : List Nat) (hb : ∀ b ∈ bs, b < 256) (hl : bs.length ≤ 1000000) (w : World) : Calls Try.prog 80 #[.string (strOf bs)] w fun e w' => e = .returned (.bool (namedB bs)) ∧ Below w.heap.size w w' := by
  have hsz := strOf_size bs
  unfold namedB
  by_cases h1 : 1 ≤ bs.length
  · have hd1 : decide ((bs.length : Int) < 1) = false := decide_eq_false (by omega)
    have hd1' : decide (1 ≤ bs.length) = true := decide_eq_true h1
    by_cases h2 : bs.length ≤ 20
    · have hd2 : decide (20 < (bs.length : Int)) = false := decide_eq_false (by omega)
      have hd2' : decide (bs.length ≤ 20) = true := decide_eq_true h2
      have hr' : ∀ q, (decide (1 ≤ bs.length) && decide (bs.length ≤ 20) && q) = q := fun q => by rw [hd1', hd2']; cases q <;> rfl
      rw [hr']
      have HB := Lib.hid hb
      obtain ⟨cap, w2, hr, hbl, hby⟩ := conv_str w bs HB.out
      have HBL := Lib.hid (And.intro hbl hby)
      clear hb hbl hby hr'
      go_enter Try.func80, Try.ntmps80
      go_wp2
      go_loopw [16] (fun i wr => ∃ k : Nat, k ≤ bs.length ∧ i = .int .i64 k ∧ wr = w2 ∧ (bs.take k).all okSign = true) (fun i _ => bs.length - (intOf i).toNat)
      case atStart => exact ⟨0, by omega, rfl, by trivial, rfl⟩
      case round =>
        obtain ⟨k, hk, rfl, rfl, hall⟩ := hrel
        have HA := Lib.hid hall
        clear hall
        by_cases hlt : k < bs.length
        · obtain ⟨ad, b, had, hb, hb2, hc⟩ := HBL.out.2.at_ hlt
          have hts : (bs.take (k + 1)).all okSign = okSign b := by
            rw [List.take_add_one, hb, List.all_append, HA.out]
            simp
          have HB2 := Lib.hid hb
          have HTS := Lib.hid hts
          have hwk : IntKind.i64.wrap ((k : Int) + 1) = (k : Int) + 1 := by rw [IntKind.wrap_i64]; omega
          injection had with had
          subst had
          rw [add_zero_off] at hc
          clear hb hts
          rcases sign_cases b with ⟨hok, hs⟩ | ⟨hok, hs1, hs2, hs3⟩
          · have HOK := Lib.hid hok
            clear hok
            rcases hs with ⟨ha, hz⟩ | ⟨ha, hz⟩ | rfl
            · have d1 : decide ((b : Int) < 97) = false := decide_eq_false (by omega)
              have d2 : decide (122 < (b : Int)) = false := decide_eq_false (by omega)
              go_wp2
              go_roundw
              case rel => exact ⟨k + 1, by omega, by go_num, by trivial, by rw [HTS.out]; exact HOK.out⟩
              case measure => simp [intOf]; omega
            · have d1 : decide ((b : Int) < 97) = true := decide_eq_true (by omega)
              have d3 : decide ((b : Int) < 48) = false := decide_eq_false (by omega)
              have d4 : decide (57 < (b : Int)) = false := decide_eq_false (by omega)
              go_wp2
              go_roundw
              case rel => exact ⟨k + 1, by omega, by go_num, by trivial, by rw [HTS.out]; exact HOK.out⟩
              case measure => simp [intOf]; omega
            · go_wp2
              go_roundw
              case rel => exact ⟨k + 1, by omega, by go_num, by trivial, by rw [HTS.out]; exact HOK.out⟩
              case measure => simp [intOf]; omega
          · have hres : bs.all okSign = false := by
              rw [List.all_eq_false]
              exact ⟨b, List.mem_of_getElem? HB2.out, by rw [hok]; simp⟩
            have HR := Lib.hid hres
            have d5 : ((b : Int) != 45) = true := by simp; omega
            clear hok hres
            by_cases c1 : b < 97
            · have d1 : decide ((b : Int) < 97) = true := decide_eq_true (by omega)
              by_cases c2 : b < 48
              · have d3 : decide ((b : Int) < 48) = true := decide_eq_true (by omega)
                go_wp2
                go_ret
                exact ⟨by rw [HR.out]; rfl, HBL.out.1⟩
              · have d3 : decide ((b : Int) < 48) = false := decide_eq_false (by omega)
                have d4 : decide (57 < (b : Int)) = true := decide_eq_true (by omega)
                go_wp2
                go_ret
                exact ⟨by rw [HR.out]; rfl, HBL.out.1⟩
            · have d1 : decide ((b : Int) < 97) = false := decide_eq_false (by omega)
              have d2 : decide (122 < (b : Int)) = true := decide_eq_true (by omega)
              have d3 : decide ((b : Int) < 48) = false := decide_eq_false (by omega)
              have d4 : decide (57 < (b : Int)) = true := decide_eq_true (by omega)
              go_wp2
              go_ret
              exact ⟨by rw [HR.out]; rfl, HBL.out.1⟩
        · obtain rfl : k = bs.length := by omega
          have hres : bs.all okSign = true := by have := HA.out; rwa [List.take_length] at this
          have HR := Lib.hid hres
          clear hres
          go_wp2
          go_ret
          exact ⟨by rw [HR.out]; rfl, HBL.out.1⟩
    · have hd2 : decide (20 < (bs.length : Int)) = true := decide_eq_true (by omega)
      have hd2' : decide (bs.length ≤ 20) = false := decide_eq_false h2
      have hr' : (decide (1 ≤ bs.length) && decide (bs.length ≤ 20) && bs.all okSign) = false := by rw [hd1', hd2']; rfl
      rw [hr']
      go_enter Try.func80, Try.ntmps80
      go_wp2
      go_ret
      exact ⟨rfl, Below.refl _ _⟩
  · have hd1 : decide ((bs.length : Int) < 1) = true := decide_eq_true (by omega)
    have hd1' : decide (1 ≤ bs.length) = false := decide_eq_false h1
    have hr' : (decide (1 ≤ bs.length) && decide (bs.length ≤ 20) && bs.all okSign) = false := by rw [hd1']; rfl
    rw [hr']
    go_enter Try.func80, Try.ntmps80
    go_wp2
    go_ret
    exact ⟨rfl, Below.refl _ _⟩
end Go.Proofs.Ytldnghmgdmjljaa
