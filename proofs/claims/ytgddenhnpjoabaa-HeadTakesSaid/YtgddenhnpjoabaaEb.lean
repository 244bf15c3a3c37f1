/-
  What the calls of a writer, nil or not, do. Conditions: the sizes.
-/
import Derived.Test.YtgddenhnpjoabaaEa
import Derived.Lib.ConvBytes
import Derived.Laws.CopyOwn
import Derived.Laws.MakeOwn
import Derived.Deep.QuietTactic
import Derived.BigQuiet
import Derived.WideShapes
import Derived.Laws.Strings
import Derived.Deep.LoopGhost
import Derived.RegionTactic
import Derived.Laws.BitsAllLaws

namespace Go.Proofs.Ytgddenhnpjoabaa
open Go.RowKit
set_option linter.unusedSimpArgs false
set_option maxRecDepth 100000
set_option linter.unusedVariables false
/-- a writer, nil or of the call's own -/
def Wr (w : World) (base : Nat) (F : List Nat) (p : Option Addr) (bs : List Nat) : Prop := (p = none ∧ F = [] ∧ bs = []) ∨ ∃ g, p = some ⟨g, 0, none⟩ ∧ WrAt w base F g bs
def plus (p : Option Addr) (bs news : List Nat) : List Nat := if p.isNone then [] else bs ++ news
def WTo (w : World) (base : Nat) (F : List Nat) (p : Option Addr) (bs : List Nat) (w' : World) : Prop := ∃ F', Wr w' base F' p bs ∧ Only F w w' ∧ Fresh w F F'
section
variable {w w' w1 : World} {base : Nat} {F : List Nat} {p : Option Addr} {bs news : List Nat}
theorem plus_plus (p : Option Addr) (bs a b : List Nat) : plus p (plus p bs a) b = plus p bs (a ++ b) := by
  cases p <;> simp [plus]
theorem plus_len (p : Option Addr) (bs a : List Nat) : (plus p bs a).length ≤ bs.length + a.length := by
  cases p <;> simp [plus]
theorem Wr.under (h : Wr w base F p bs) : Under w F := by
  rcases h with ⟨_, rfl, _⟩ | ⟨g, _, h⟩
  · exact fun k hk => by cases hk
  · exact h.under
theorem Wr.over (h : Wr w base F p bs) : Over base F := by
  rcases h with ⟨_, rfl, _⟩ | ⟨g, _, h⟩
  · exact fun k hk => by cases hk
  · exact h.over
theorem Wr.of (h : Wr w base F p bs) (hk : ∀ k, k ∈ F → w'.heap[k]? = w.heap[k]?) : Wr w' base F p bs := by
  rcases h with h | ⟨g, hp, h⟩
  · exact .inl h
  · exact .inr ⟨g, hp, h.of hk⟩
theorem Wr.below (h : Wr w base F p bs) (hb : Below w.heap.size w w') : Wr w' base F p bs := h.of fun k hk => hb.block k (h.under k hk)
theorem Wr.plus_nil (h : Wr w base F p bs) : plus p bs [] = bs := by
  rcases h with ⟨rfl, _, rfl⟩ | ⟨g, rfl, h⟩
  · rfl
  · simp [plus]
theorem WTo.after {F1 : List Nat} (ho : Only F w w1) (hf : Fresh w F F1) (h : WTo w1 base F1 p bs w') : WTo w base F p bs w' := by
  obtain ⟨F2, h1, h2, h3⟩ := h
  exact ⟨F2, h1, ho.trans h2 hf, hf.trans h3 ho.size⟩
theorem WTo.since (hb : Below w.heap.size w w1) (h : WTo w1 base F p bs w') : WTo w base F p bs w' := h.after (Only.of_below hb F) (Fresh.refl _ _)
end
theorem put_w (w : World) (base : Nat) (F : List Nat) (p : Option Addr) (bs news : List Nat) (B : Nat) (A : Option Addr) (n c : Nat) (h : Wr w base F p bs) (hb : Bytes w B A n news) (hl : bs.length + n ≤ 10000000) (hB : base ≤ w.heap.size) :
    Calls Try.prog 85 #[.pointer p, .slice A n c] w fun e w' => e = .returned (.tuple #[]) ∧ WTo w base F p (plus p bs news) w' := by
  rcases h with ⟨rfl, rfl, rfl⟩ | ⟨g, rfl, h⟩
  · exact (put_nil _ w).mono fun e w' ⟨he, hw⟩ => ⟨he, [], .inl ⟨rfl, rfl, rfl⟩, by rw [← hw]; exact Only.refl _ _, Fresh.refl _ _⟩
  · exact (put_any w base g F bs news B A n c h hb hl hB).mono fun e w' ⟨he, F', h1, h2, h3⟩ => ⟨he, F', .inr ⟨g, rfl, h1⟩, h2, h3⟩
theorem eight_size : (Try.prog.info? 125).map (·.size) = some 8 := by kernel_rfl
theorem wnum_any (w : World) (base : Nat) (F : List Nat) (p : Option Addr) (bs : List Nat) (n : Int) (h : Wr w base F p bs) (hl : bs.length ≤ 9000000) (hB : base ≤ w.heap.size) :
    Calls Try.prog 33 #[.pointer p, .int .i64 n] w fun e w' => e = .returned (.tuple #[]) ∧ WTo w base F p (plus p bs (numB n)) w' := by
  have hz := eight_zero
  have hi : (Try.prog.info? 125).map (·.size) = some (u8s (numB n)).length := by rw [u8s_length, numB_len]; exact eight_size
  go_enter Try.func33, Try.ntmps33
  go_wp2_with fail
  refine (packed_any n w).mono ?_
  rintro e w1 ⟨rfl, b1⟩
  go_wp2_with (first | (refine wpList_store_newN rfl 125 (.tmp 4) (.tmp 6) rfl w1.heap.size rfl (u8s (numB n)) _ rfl rfl hi (by rw [u8s_length, numB_len]; rfl) (oneCell_u8s _) ?_))
  have B1 : Below w.heap.size w (w1.alloc (.cells (u8s (numB n)).toArray 125)) := b1.alloc b1.size _
  have hb8 : Bytes (w1.alloc (.cells (u8s (numB n)).toArray 125)) (w1.heap.size + 1) (some ⟨w1.heap.size, 0, none⟩) 8 (numB n) := by
    have := Bytes.new w1 (numB n) 125 (0, 0) (numB_lt n)
    rwa [numB_len] at this
  refine (put_w _ base F p bs (numB n) _ _ 8 8 (h.below B1) hb8 (by omega) (Nat.le_trans hB B1.size)).mono ?_
  rintro e w2 ⟨rfl, h2⟩
  go_wp2
  refine bodyPost_end (results_none rfl _ _ _) rfl ?_
  exact ⟨rfl, h2.since B1⟩
theorem wflag_any (w : World) (base : Nat) (F : List Nat) (p : Option Addr) (bs : List Nat) (f : Bool) (h : Wr w base F p bs) (hl : bs.length ≤ 9000000) (hB : base ≤ w.heap.size) :
    Calls Try.prog 88 #[.pointer p, .bool f] w fun e w' => e = .returned (.tuple #[]) ∧ WTo w base F p (plus p bs [if f then 1 else 0]) w' := by
  cases f with
  | true =>
    go_enter Try.func88, Try.ntmps88
    go_wp2_with fail
    have B1 := below_alloc w (.cells (u8s [1]).toArray 5)
    refine (put_w _ base F p bs [1] _ _ 1 1 (h.below B1) (Bytes.new w [1] 5 (0, 0) (by simp)) (by omega) (Nat.le_trans hB B1.size)).mono ?_
    rintro e w2 ⟨rfl, h2⟩
    go_wp2
    refine bodyPost_end (results_none rfl _ _ _) rfl ?_
    exact ⟨rfl, h2.since B1⟩
  | false =>
    go_enter Try.func88, Try.ntmps88
    go_wp2_with fail
    have B1 := below_alloc w (.cells (u8s [0]).toArray 5)
    refine (put_w _ base F p bs [0] _ _ 1 1 (h.below B1) (Bytes.new w [0] 5 (0, 0) (by simp)) (by omega) (Nat.le_trans hB B1.size)).mono ?_
    rintro e w2 ⟨rfl, h2⟩
    go_wp2
    refine bodyPost_end (results_none rfl _ _ _) rfl ?_
    exact ⟨rfl, h2.since B1⟩
theorem Bytes.only {w w' : World} {B n : Nat} {A : Option Addr} {bs F : List Nat} (h : Bytes w B A n bs) (ho : Only F w w') (ha : ∀ a, A = some a → 0 < n → a.block ∉ F) : Bytes w' B A n bs :=
  ⟨⟨h.1.1, fun hn => by
    obtain ⟨ad, e, hB, hc⟩ := h.1.2 hn
    exact ⟨ad, e, hB, fun j u hu => (ho.cell (World.block_lt_of_cell? w _ (hc j u hu)) (by rw [block_of_add]; exact ha ad e hn)).trans (hc j u hu)⟩⟩, h.2⟩
theorem strOf_size (bs : List Nat) : (strOf bs).size = bs.length := by simp [strOf, strOfNums_size]
/-- a string as new bytes -/
theorem conv_str (w : World) (bs : List Nat) (hb : ∀ b ∈ bs, b < 256) : ∃ cap w', (convert 9 23 (.string (strOf bs))).run Try.prog w = .ok (.slice (some ⟨w.heap.size, 0, none⟩) bs.length cap) w' ∧ Below w.heap.size w w' ∧ Bytes w' (w.heap.size + 1) (some ⟨w.heap.size, 0, none⟩) bs.length bs := by
  have h := Lib.run_convert_string_bytes (P := Try.prog) w 9 23 5 (strOf bs) Try.underlying9 Try.underlying23 Try.underlying5
  rw [strOf_size] at h
  refine ⟨_, _, h, ⟨rfl, rfl, rfl, by rw [Lib.bytesWorld_size]; omega, fun i hi => Lib.bytesWorld_at_old _ _ _ _ hi⟩, ⟨⟨by simp [u8s], fun hn => ⟨_, rfl, Nat.lt_succ_self _, fun j u hu => ?_⟩⟩, hb⟩⟩
  have hj : j < bs.length := by
    rcases Nat.lt_or_ge j bs.length with h' | h'
    · exact h'
    · rw [List.getElem?_eq_none (by rw [u8s_length]; exact h')] at hu; cases hu
  rw [add_zero_off, Lib.bytesWorld_cell _ _ _ _ (by rw [strOf_size]; exact hj), ← hu]
  have hbj := hb _ (List.getElem_mem hj)
  simp [strOf, strOfNums_data, u8s, u8, hj]
  omega
theorem wpList_conv {ops : Array Oper} {rest : List Oper} {o : Oper} {a : Act} {w : World} {Q : Exit → Act → World → Prop} (hg : o.guard = none) (x : Operand) (ho : o.op = .convert 9 23 x) (bs : List Nat) (hx : a.eval x = .string (strOf bs)) (hb : ∀ b ∈ bs, b < 256)
    (h : ∀ cap w', Below w.heap.size w w' → Bytes w' (w.heap.size + 1) (some ⟨w.heap.size, 0, none⟩) bs.length bs → wpList Try.prog ops Q rest (a.put o.dst (.slice (some ⟨w.heap.size, 0, none⟩) bs.length cap)) w') : wpList Try.prog ops Q (o :: rest) a w := by
  obtain ⟨cap, w', hr, h1, h2⟩ := conv_str w bs hb
  refine wpList_plain hg fun _ hK => wp_ran (w' := w') ?_ (hK _ _ (h cap w' h1 h2))
  simp [execOp, ho, hx, hr, Result.andThen]
theorem counted_bytes (w : World) (base : Nat) (F : List Nat) (p : Option Addr) (bs news : List Nat) (B : Nat) (A : Option Addr) (n c : Nat) (h : Wr w base F p bs) (hb : Bytes w B A n news) (hlt : ∀ a, A = some a → 0 < n → a.block ∉ F) (hl : bs.length + n ≤ 8000000) (hB : base ≤ w.heap.size) :
    Calls Try.prog 141 #[.pointer p, .slice A n c] w fun e w' => e = .returned (.tuple #[]) ∧ WTo w base F p (plus p bs (numB n ++ news)) w' := by
  go_enter Try.func141, Try.ntmps141
  go_wp2_with fail
  refine (wnum_any w base F p bs n h (by omega) hB).mono ?_
  rintro e w1 ⟨rfl, F1, h1, o1, f1⟩
  go_wp2_with fail
  have := plus_len p bs (numB n)
  rw [numB_len] at this
  have hb1 := hb.only o1 hlt
  refine (put_w w1 base F1 p (plus p bs (numB n)) news B A n c h1 hb1 (by omega) (Nat.le_trans hB o1.size)).mono ?_
  rintro e w2 ⟨rfl, h2⟩
  rw [plus_plus] at h2
  go_wp2
  refine bodyPost_end (results_none rfl _ _ _) rfl ?_
  exact ⟨rfl, h2.after o1 f1⟩
theorem counted_str (w : World) (base : Nat) (F : List Nat) (p : Option Addr) (bs news : List Nat) (h : Wr w base F p bs) (hb : ∀ b ∈ news, b < 256) (hl : bs.length + news.length ≤ 8000000) (hB : base ≤ w.heap.size) :
    Calls Try.prog 137 #[.pointer p, .string (strOf news)] w fun e w' => e = .returned (.tuple #[]) ∧ WTo w base F p (plus p bs (numB news.length ++ news)) w' := by
  have hs := strOf_size news
  go_enter Try.func137, Try.ntmps137
  go_wp2_with fail
  refine (wnum_any w base F p bs news.length h (by omega) hB).mono ?_
  rintro e w1 ⟨rfl, F1, h1, o1, f1⟩
  go_wp2_with (refine wpList_conv rfl (.tmp 9) rfl news rfl hb ?_
               intro cap wc bc hbc)
  have := plus_len p bs (numB news.length)
  rw [numB_len] at this
  refine (put_w wc base F1 p (plus p bs (numB news.length)) news _ _ _ cap (h1.below bc) hbc (by omega) (Nat.le_trans hB (Nat.le_trans o1.size bc.size))).mono ?_
  rintro e w2 ⟨rfl, h2⟩
  rw [plus_plus] at h2
  go_wp2
  refine bodyPost_end (results_none rfl _ _ _) rfl ?_
  exact ⟨rfl, (h2.since bc).after o1 f1⟩
/-- how many bytes, and they -/
theorem wbytes_any (w : World) (base : Nat) (F : List Nat) (p : Option Addr) (bs news : List Nat) (B : Nat) (A : Option Addr) (n c : Nat) (h : Wr w base F p bs) (hb : Bytes w B A n news) (hlt : ∀ a, A = some a → 0 < n → a.block ∉ F) (hl : bs.length + n ≤ 8000000) (hB : base ≤ w.heap.size) :
    Calls Try.prog 90 #[.pointer p, .slice A n c] w fun e w' => e = .returned (.tuple #[]) ∧ WTo w base F p (plus p bs (numB n ++ news)) w' := by
  go_enter Try.func90, Try.ntmps90
  go_wp2_with fail
  refine (counted_bytes w base F p bs news B A n c h hb hlt hl hB).mono ?_
  rintro e w2 ⟨rfl, h2⟩
  go_wp2
  refine bodyPost_end (results_none rfl _ _ _) rfl ?_
  exact ⟨rfl, h2⟩
theorem wtext_any (w : World) (base : Nat) (F : List Nat) (p : Option Addr) (bs news : List Nat) (h : Wr w base F p bs) (hb : ∀ b ∈ news, b < 256) (hl : bs.length + news.length ≤ 8000000) (hB : base ≤ w.heap.size) :
    Calls Try.prog 86 #[.pointer p, .string (strOf news)] w fun e w' => e = .returned (.tuple #[]) ∧ WTo w base F p (plus p bs (numB news.length ++ news)) w' := by
  go_enter Try.func86, Try.ntmps86
  go_wp2_with fail
  refine (counted_str w base F p bs news h hb hl hB).mono ?_
  rintro e w2 ⟨rfl, h2⟩
  go_wp2
  refine bodyPost_end (results_none rfl _ _ _) rfl ?_
  exact ⟨rfl, h2⟩
/-- numbers as cells -/
def i64s (l : List Int) : List Value := l.map (.int .i64)
theorem i64s_length (l : List Int) : (i64s l).length = l.length := by simp [i64s]
def Ints (w : World) (B : Nat) (A : Option Addr) (n : Nat) (l : List Int) : Prop := Reads w B 1 A n (i64s l)
theorem Ints.len {w : World} {B n : Nat} {A : Option Addr} {l : List Int} (h : Ints w B A n l) : l.length = n := by have := h.1; rw [i64s_length] at this; omega
theorem Ints.only {w w' : World} {B n : Nat} {A : Option Addr} {l : List Int} {F : List Nat} (h : Ints w B A n l) (ho : Only F w w') (ha : ∀ a, A = some a → 0 < n → a.block ∉ F) : Ints w' B A n l :=
  ⟨h.1, fun hn => by
    obtain ⟨ad, e, hB, hc⟩ := h.2 hn
    exact ⟨ad, e, hB, fun j u hu => (ho.cell (World.block_lt_of_cell? w _ (hc j u hu)) (by rw [block_of_add]; exact ha ad e hn)).trans (hc j u hu)⟩⟩
theorem Ints.at_ {w : World} {B n k : Nat} {A : Option Addr} {l : List Int} (h : Ints w B A n l) (hk : k < n) : ∃ ad x, A = some ad ∧ l[k]? = some x ∧ w.cell? (ad.add k) = some (.int .i64 x) := by
  obtain ⟨ad, u, e, hb, hx, hc⟩ := Reads.at_ h hk
  have hl : k < l.length := by have := h.len; omega
  refine ⟨ad, l[k], e, List.getElem?_eq_getElem hl, ?_⟩
  rw [hc, ← hx]
  simp [i64s, hl]
def numsB (l : List Int) : List Nat := numB l.length ++ l.flatMap numB
theorem numsB_len (l : List Int) : (numsB l).length = 8 + 8 * l.length := by
  have : (l.flatMap numB).length = 8 * l.length := by
    induction l with
    | nil => rfl
    | cons x l ih => rw [List.flatMap_cons, List.length_append, ih, numB_len, List.length_cons]; omega
  rw [numsB, List.length_append, numB_len, this]
theorem out_any (w : World) (base : Nat) (F : List Nat) (p : Option Addr) (bs : List Nat) (h : Wr w base F p bs) (hl : bs.length ≤ 9000000) :
    Calls Try.prog 37 #[.pointer p] w fun e w' => ∃ v, e = .returned v ∧ Own w' w.heap.size v bs.length bs ∧ Below w.heap.size w w' := by
  rcases h with ⟨rfl, rfl, rfl⟩ | ⟨g, rfl, v, rfl, h1, h2, h3, h4⟩
  · go_enter Try.func37, Try.ntmps37
    go_wp2
    go_ret
    exact ⟨_, rfl, Own.nil _ _, Below.refl _ _⟩
  · obtain ⟨A1, c1, rfl, -, -, -⟩ := h2.form
    have hc : w.cell? ⟨g, 0, none⟩ = some (.slice A1 bs.length c1) := by rw [h1.cell]; rfl
    go_enter Try.func37, Try.ntmps37
    go_wp2_with fail
    refine (clone_any A1 bs.length c1 bs w w.heap.size (by omega) (h2.bytes h4)).mono ?_
    rintro e w' ⟨v, rfl, h5, h6⟩
    go_wp2
    go_ret
    exact ⟨v, rfl, h5, h6⟩
end Go.Proofs.Ytgddenhnpjoabaa

/-
  What the calls of the program's reader, nil or not, do. Conditions: the reader lies where it is said to.
-/
namespace Go.Proofs.Ytgddenhnpjoabaa
open Go.RowKit
set_option linter.unusedSimpArgs false
set_option maxRecDepth 100000
set_option linter.unusedVariables false
/-- a reader of the call's own at g -/
def RdAt (w : World) (base : Nat) (F : List Nat) (g : Nat) (s : RD) : Prop :=
  ∃ A c, F = g :: (A.map Addr.block).toList ∧ Blk w g 139 #[.slice A s.bs.length c, .bool s.bad] ∧ Bytes w w.heap.size A s.bs.length s.bs ∧ s.bs.length ≤ c ∧ c ≤ maxLen ∧ base ≤ g ∧ (∀ a, A = some a → base ≤ a.block ∧ a.block < w.heap.size ∧ a.block ≠ g) ∧ s.Good
/-- a reader, nil or of the call's own -/
def Rd (w : World) (base : Nat) (F : List Nat) (p : Option Addr) (s : RD) : Prop := (p = none ∧ F = [] ∧ s = RD.spoilt) ∨ ∃ g, p = some ⟨g, 0, none⟩ ∧ RdAt w base F g s
def RTo (w : World) (base : Nat) (F : List Nat) (p : Option Addr) (s : RD) (w' : World) : Prop := ∃ F', Rd w' base F' p s ∧ Only F w w' ∧ Fresh w F F'
section
variable {w w' w1 : World} {base g : Nat} {F : List Nat} {p : Option Addr} {s : RD}
theorem RdAt.of (h : RdAt w base F g s) (hs : w.heap.size ≤ w'.heap.size) (hk : ∀ k, k ∈ F → w'.heap[k]? = w.heap[k]?) : RdAt w' base F g s := by
  obtain ⟨A, c, rfl, h1, h2, h3, h4, h5, h6, h7⟩ := h
  refine ⟨A, c, rfl, h1.of (hk g (by simp)), ⟨⟨h2.1.1, fun hn => ?_⟩, h2.2⟩, h3, h4, h5, fun a ha => ⟨(h6 a ha).1, Nat.lt_of_lt_of_le (h6 a ha).2.1 hs, (h6 a ha).2.2⟩, h7⟩
  obtain ⟨ad, e, hB, hc⟩ := h2.1.2 hn
  exact ⟨ad, e, Nat.lt_of_lt_of_le hB hs, fun j u hu => (World.cell?_of_block (hk _ (by rw [block_of_add, e]; simp))).trans (hc j u hu)⟩
theorem RdAt.under (h : RdAt w base F g s) : Under w F := by
  obtain ⟨A, c, rfl, h1, h2, h3, h4, h5, h6, h7⟩ := h
  intro k hk
  rcases List.mem_cons.1 hk with rfl | hk
  · exact h1.lt
  · cases A with
    | none => cases hk
    | some a => simp at hk; subst hk; exact (h6 a rfl).2.1
theorem RdAt.over (h : RdAt w base F g s) : Over base F := by
  obtain ⟨A, c, rfl, h1, h2, h3, h4, h5, h6, h7⟩ := h
  intro k hk
  rcases List.mem_cons.1 hk with rfl | hk
  · exact h5
  · cases A with
    | none => cases hk
    | some a => simp at hk; subst hk; exact (h6 a rfl).1
theorem Rd.under (h : Rd w base F p s) : Under w F := by
  rcases h with ⟨_, rfl, _⟩ | ⟨g, _, h⟩
  · exact fun k hk => by cases hk
  · exact h.under
theorem Rd.over (h : Rd w base F p s) : Over base F := by
  rcases h with ⟨_, rfl, _⟩ | ⟨g, _, h⟩
  · exact fun k hk => by cases hk
  · exact h.over
theorem Rd.of (h : Rd w base F p s) (hs : w.heap.size ≤ w'.heap.size) (hk : ∀ k, k ∈ F → w'.heap[k]? = w.heap[k]?) : Rd w' base F p s := by
  rcases h with h | ⟨g, hp, h⟩
  · exact .inl h
  · exact .inr ⟨g, hp, h.of hs hk⟩
theorem Rd.below (h : Rd w base F p s) (hb : Below w.heap.size w w') : Rd w' base F p s := h.of hb.size fun k hk => hb.block k (h.under k hk)
theorem Rd.good (h : Rd w base F p s) : s.Good := by
  rcases h with ⟨_, _, rfl⟩ | ⟨g, _, A, c, _, _, _, _, _, _, _, h⟩
  · exact RD.spoilt_good
  · exact h
theorem Rd.len (h : Rd w base F p s) : s.bs.length ≤ maxLen := by
  rcases h with ⟨_, _, rfl⟩ | ⟨g, _, A, c, _, _, _, h1, h2, _⟩
  · simp [RD.spoilt, maxLen]
  · omega
theorem RTo.after {F1 : List Nat} (ho : Only F w w1) (hf : Fresh w F F1) (h : RTo w1 base F1 p s w') : RTo w base F p s w' := by
  obtain ⟨F2, h1, h2, h3⟩ := h
  exact ⟨F2, h1, ho.trans h2 hf, hf.trans h3 ho.size⟩
theorem RTo.since (hb : Below w.heap.size w w1) (h : RTo w1 base F p s w') : RTo w base F p s w' := h.after (Only.of_below hb F) (Fresh.refl _ _)
theorem RTo.stay (h : Rd w base F p s) : RTo w base F p s w := ⟨F, h, Only.refl _ _, Fresh.refl _ _⟩
theorem RTo.then_ (h : RTo w base F p s w1) (hb : Below w1.heap.size w1 w') : RTo w base F p s w' := by
  obtain ⟨F2, h1, h2, h3⟩ := h
  exact ⟨F2, h1.below hb, h2.trans (Only.of_below hb F2) h3, h3⟩
end
theorem left_any (w : World) (base : Nat) (F : List Nat) (p : Option Addr) (s : RD) (h : Rd w base F p s) :
    Calls Try.prog 164 #[.pointer p] w fun e w' => e = .returned (.int .i64 s.bs.length) ∧ w = w' := by
  rcases h with ⟨rfl, rfl, rfl⟩ | ⟨g, rfl, A, c, rfl, h1, h2, h3, h4, h5, h6, h7⟩
  · go_enter Try.func164, Try.ntmps164
    go_wp2
    go_ret
    exact ⟨rfl, rfl⟩
  · have hc : w.cell? ⟨g, 0, none⟩ = some (.slice A s.bs.length c) := by rw [h1.cell]; rfl
    go_enter Try.func164, Try.ntmps164
    go_wp2
    go_ret
    exact ⟨rfl, rfl⟩
theorem reader_zero (w : World) : (zeroValue 139).run Try.prog w = .ok (.agg #[.slice none 0 0, .bool false]) w := by kernel_rfl
theorem spoil_any (w : World) (base : Nat) (F : List Nat) (p : Option Addr) (s : RD) (h : Rd w base F p s) :
    Calls Try.prog 146 #[.pointer p] w fun e w' => e = .returned (.tuple #[]) ∧ RTo w base F p RD.spoilt w' := by
  rcases h with ⟨rfl, rfl, rfl⟩ | ⟨g, rfl, A, c, rfl, h1, h2, h3, h4, h5, h6, h7⟩
  · go_enter Try.func146, Try.ntmps146
    go_wp2
    refine bodyPost_end (results_none rfl _ _ _) rfl ?_
    exact ⟨rfl, RTo.stay (.inl ⟨rfl, rfl, rfl⟩)⟩
  · have hc0 : w.cell? ⟨g, 0, none⟩ = some (.slice A s.bs.length c) := by rw [h1.cell]; rfl
    have hc1 : w.cell? ⟨g, 1, none⟩ = some (.bool s.bad) := by rw [h1.cell]; rfl
    have hf0 : w.frozen? ⟨g, 0, none⟩ = false := h1.frozen _
    have hf1 : w.frozen? ⟨g, 1, none⟩ = false := h1.frozen _
    have hz := reader_zero
    go_enter Try.func146, Try.ntmps146
    go_wp2
    refine bodyPost_end (results_none rfl _ _ _) rfl ?_
    have hb2 : Blk ((w.setCell ⟨g, 0, none⟩ (.slice none 0 0)).setCell ⟨g, 1, none⟩ (.bool true)) g 139 #[.slice none 0 0, .bool true] := (h1.set_ 0 _).set_ 1 _
    exact ⟨rfl, [g], .inr ⟨g, rfl, none, 0, rfl, hb2, ⟨Reads.none_, fun b hb => by cases hb⟩, Nat.le_refl _, by simp [maxLen], h5, fun a ha => (by cases ha), RD.spoilt_good⟩,
      ((Only.refl _ _).setCell (.inl (by simp)) _).setCell (.inl (by simp)) _, fun k hk => .inl (by simp at hk; subst hk; simp)⟩
theorem cut_addr (A : Option Addr) (k cap : Nat) (a : Addr) (h : (if cap = k then A else A.map (·.add k)) = some a) : ∃ a', A = some a' ∧ a'.block = a.block := by
  split at h
  · exact ⟨a, h, rfl⟩
  · cases A with
    | none => cases h
    | some a' => simp at h; exact ⟨a', rfl, by rw [← h, block_of_add]⟩
theorem RD.take_fit {s : RD} {k : Nat} (hb : s.bad = false) (hk : k ≤ s.bs.length) : s.take k = ⟨s.bs.drop k, false⟩ ∧ s.got k = s.bs.take k := by
  have : s.fits k = true := by simp [RD.fits, hb]; omega
  simp [RD.take, RD.got, this]
theorem RD.take_un {s : RD} {n : Int} (h : n < 0 ∨ (s.bs.length : Int) < n ∨ s.bad = true) : s.take n = RD.spoilt ∧ s.got n = [] := by
  have : s.fits n = false := by
    simp only [RD.fits, Bool.and_eq_false_iff, Bool.not_eq_false', decide_eq_false_iff_not]
    rcases h with h | h | h
    · exact .inl (.inr (by omega))
    · exact .inr (by omega)
    · exact .inl (.inl h)
  simp [RD.take, RD.got, this]
theorem RD.eta {s : RD} (h : s.Good) (hb : s.bad = true) : s = RD.spoilt := by
  obtain ⟨bs, bad⟩ := s
  have := h.1 hb
  simp at hb this
  subst hb this
  rfl
theorem take_done (w : World) (base g k : Nat) (A : Option Addr) (c : Nat) (s : RD) (h1 : Blk w g 139 #[.slice A s.bs.length c, .bool s.bad]) (h2 : Bytes w w.heap.size A s.bs.length s.bs) (h3 : s.bs.length ≤ c) (h4 : c ≤ maxLen) (h5 : base ≤ g) (h6 : ∀ a, A = some a → base ≤ a.block ∧ a.block < w.heap.size ∧ a.block ≠ g) (h7 : s.Good) (hk : k ≤ s.bs.length) (hbad : s.bad = false) :
    RTo w base (g :: (A.map Addr.block).toList) (some ⟨g, 0, none⟩) ⟨s.bs.drop k, false⟩ (w.setCell ⟨g, 0, none⟩ (.slice (if c = k then A else A.map (·.add k)) (s.bs.length - k) (c - k))) ∧
    Bytes (w.setCell ⟨g, 0, none⟩ (.slice (if c = k then A else A.map (·.add k)) (s.bs.length - k) (c - k))) w.heap.size A k (s.bs.take k) := by
  have hset : ∀ (B n : Nat) (A' : Option Addr) (bs : List Nat) (v : Value), Bytes w B A' n bs → (∀ a, A' = some a → a.block ≠ g) → Bytes (w.setCell ⟨g, 0, none⟩ v) B A' n bs := fun B n A' bs v h hne =>
    ⟨⟨h.1.1, fun hn => by
      obtain ⟨ad, e, hB, hc⟩ := h.1.2 hn
      exact ⟨ad, e, hB, fun j u hu => (World.cell?_setCell_other _ _ _ _ (fun e' => hne ad e (by have := congrArg Addr.block e'; rw [block_of_add] at this; exact this.symm))).trans (hc j u hu)⟩⟩, h.2⟩
  have hcut : Bytes w w.heap.size (if c = k then A else A.map (·.add k)) (s.bs.length - k) (s.bs.drop k) := by
    have := h2.1.cut hk h3
    rw [Nat.mul_one, u8s, ← List.map_drop] at this
    exact ⟨this, fun b hb => h2.2 b (List.mem_of_mem_drop hb)⟩
  refine ⟨⟨g :: ((if c = k then A else A.map (·.add k)).map Addr.block).toList, .inr ⟨g, rfl, _, c - k, rfl, ?_, ?_, ?_, by omega, h5, fun a ha => ?_, ?_⟩, (Only.refl _ _).setCell (.inl (by simp)) _, fun j hj => .inl ?_⟩, hset _ _ _ _ _ (h2.take hk) (fun a ha => (h6 a ha).2.2)⟩
  · have := h1.set_ 0 (.slice (if c = k then A else A.map (·.add k)) (s.bs.length - k) (c - k))
    rw [hbad] at this
    simpa using this
  · have := hset _ _ _ _ (.slice (if c = k then A else A.map (·.add k)) (s.bs.length - k) (c - k)) hcut (fun a ha => by
      obtain ⟨a', h, hb⟩ := cut_addr A k c a ha
      rw [← hb]
      exact (h6 a' h).2.2)
    simp only [List.length_drop]
    exact this.more (by simp [World.setCell])
  · simp only [List.length_drop]; omega
  · obtain ⟨a', h, hb⟩ := cut_addr A k c a ha
    rw [← hb]
    have := h6 a' h
    exact ⟨this.1, by simpa [World.setCell] using this.2.1, this.2.2⟩
  · exact ⟨fun e => (by cases e), fun b hb => h7.2 b (List.mem_of_mem_drop hb)⟩
  · rcases List.mem_cons.1 hj with rfl | hj
    · simp
    · refine List.mem_cons_of_mem _ ?_
      simp only [Option.mem_toList, Option.mem_def, Option.map_eq_some_iff] at hj ⊢
      obtain ⟨a, ha, rfl⟩ := hj
      obtain ⟨a', h, hb⟩ := cut_addr A k c a ha
      exact ⟨a', h, hb⟩
theorem take_any (w : World) (base : Nat) (F : List Nat) (p : Option Addr) (s : RD) (n : Int) (h : Rd w base F p s) (hn1 : -9223372036854775808 ≤ n) (hn2 : n ≤ 9223372036854775807) :
    Calls Try.prog 142 #[.pointer p, .int .i64 n] w fun e w' => ∃ A c, e = .returned (.slice A (s.got n).length c) ∧ RTo w base F p (s.take n) w' ∧ (∃ B, Bytes w' B A (s.got n).length (s.got n)) ∧ (∀ a, A = some a → a.block ∈ F) ∧ (A = none → (s.got n).length = 0) := by
  by_cases h0 : n < 0
  · obtain ⟨e1, e2⟩ := RD.take_un (s := s) (.inl h0)
    rw [e1, e2]
    have hd : decide (n < 0) = true := by simpa using h0
    go_enter Try.func142, Try.ntmps142
    go_wp2_with fail
    refine (spoil_any w base F p s h).mono ?_
    rintro e w1 ⟨rfl, r1⟩
    go_wp2
    go_ret
    exact ⟨none, 0, rfl, r1, ⟨0, Reads.none_, fun b hb => by cases hb⟩, fun a ha => (by cases ha), by simp⟩
  · have hd : decide (n < 0) = false := by simpa using h0
    by_cases hl : (s.bs.length : Int) < n
    · obtain ⟨e1, e2⟩ := RD.take_un (s := s) (n := n) (.inr (.inl hl))
      rw [e1, e2]
      have hd2 : decide ((s.bs.length : Int) < n) = true := by simpa using hl
      go_enter Try.func142, Try.ntmps142
      go_wp2_with fail
      refine (left_any w base F p s h).mono ?_
      rintro e w1 ⟨rfl, rfl⟩
      go_wp2_with fail
      refine (spoil_any w base F p s h).mono ?_
      rintro e w1 ⟨rfl, r1⟩
      go_wp2
      go_ret
      exact ⟨none, 0, rfl, r1, ⟨0, Reads.none_, fun b hb => by cases hb⟩, fun a ha => (by cases ha), by simp⟩
    · have hd2 : decide ((s.bs.length : Int) < n) = false := by simpa using hl
      obtain ⟨k, rfl⟩ := Int.eq_ofNat_of_zero_le (show 0 ≤ n by omega)
      by_cases hk0 : k = 0
      · subst hk0
        have hd3 : (((0 : Nat) : Int) == 0) = true := rfl
        have e1 : s.take ((0 : Nat) : Int) = s ∧ s.got ((0 : Nat) : Int) = [] := by
          cases hb : s.bad with
          | true => rw [RD.eta h.good hb]; exact ⟨rfl, rfl⟩
          | false =>
            obtain ⟨e1, e2⟩ := RD.take_fit (k := 0) hb (Nat.zero_le _)
            rw [e1, e2]
            obtain ⟨bs, bad⟩ := s
            simp at hb
            subst hb
            exact ⟨rfl, rfl⟩
        rw [e1.1, e1.2]
        go_enter Try.func142, Try.ntmps142
        go_wp2_with fail
        refine (left_any w base F p s h).mono ?_
        rintro e w1 ⟨rfl, rfl⟩
        go_wp2
        go_ret
        exact ⟨none, 0, rfl, RTo.stay h, ⟨0, Reads.none_, fun b hb => by cases hb⟩, fun a ha => (by cases ha), by simp⟩
      · have hd3 : ((k : Int) == 0) = false := by simp; omega
        have hkl : k ≤ s.bs.length := by omega
        have hbad : s.bad = false := by
          cases hb : s.bad with
          | false => rfl
          | true => have := h.good.1 hb; rw [this] at hkl; simp at hkl; omega
        obtain ⟨e1, e2⟩ := RD.take_fit hbad hkl
        rw [e1, e2]
        have hlc := left_any w base F p s h
        rcases h with ⟨rfl, rfl, rfl⟩ | ⟨g, rfl, A, c, rfl, h1, h2, h3, h4, h5, h6, h7⟩
        · simp [RD.spoilt] at hkl; omega
        · have hc0 : w.cell? ⟨g, 0, none⟩ = some (.slice A s.bs.length c) := by rw [h1.cell]; rfl
          have hf0 : w.frozen? ⟨g, 0, none⟩ = false := h1.frozen _
          unfold maxLen at h4
          have q1 : (0 : Int) ≤ (k : Int) := by omega
          have q2 : (k : Int) ≤ (c : Int) := by omega
          have q3 : (k : Int) ≤ (s.bs.length : Int) := by omega
          have hkc : k ≤ c := by omega
          go_enter Try.func142, Try.ntmps142
          go_wp2_with fail
          refine hlc.mono ?_
          rintro e w1 ⟨he, hw⟩
          subst hw
          subst he
          have hdone := take_done w base g k A c s h1 h2 h3 h4 h5 h6 h7 hkl hbad
          have hlen : (s.bs.take k).length = k := by rw [List.length_take]; omega
          have hAF : ∀ a, A = some a → a.block ∈ g :: (A.map Addr.block).toList := fun a ha => by subst ha; simp
          have hAn : A = none → (s.bs.take k).length = 0 := fun ha => by
            subst ha
            obtain ⟨_, h, _⟩ := h2.1.2 (by omega)
            cases h
          have HD := Lib.hid hdone
          have HAF := Lib.hid hAF
          have HAn := Lib.hid hAn
          clear hdone hAF hAn
          by_cases hck : c = k
          · have hHD := HD.out
            rw [if_pos hck] at hHD
            have HD2 := Lib.hid hHD
            clear hHD HD
            subst hck
            go_wp2
            go_ret
            rw [hlen]
            have := HD2.out
            rw [Nat.sub_self, show s.bs.length - c = 0 by omega] at this
            exact ⟨A, _, rfl, this.1, ⟨_, this.2⟩, HAF.out, by rw [← hlen]; exact HAn.out⟩
          · have hHD := HD.out
            rw [if_neg hck] at hHD
            have HD2 := Lib.hid hHD
            clear hHD HD
            go_wp2
            go_ret
            rw [hlen]
            exact ⟨A, _, rfl, HD2.out.1, ⟨_, HD2.out.2⟩, HAF.out, by rw [← hlen]; exact HAn.out⟩
end Go.Proofs.Ytgddenhnpjoabaa

/-
  Heads as data: names, marks, links, snapshots; which are good; their text, and what is read of any bytes. No condition; nothing of the program is named.
-/
namespace Go.Proofs.Ytgddenhnpjoabaa
open Go.RowKit
set_option linter.unusedSimpArgs false
set_option linter.unusedVariables false
def okSign (b : Nat) : Bool := (decide (97 ≤ b) && decide (b ≤ 122)) || (decide (48 ≤ b) && decide (b ≤ 57)) || decide (b = 45)
def namedB (s : List Nat) : Bool := decide (1 ≤ s.length) && decide (s.length ≤ 20) && s.all okSign
structure LkV where
  par : List Nat
  ps : Int
  ov : Int
structure MkV where
  on : Bool
  good : Bool
  row : List Nat
structure SnV where
  num : Int
  size : Int
  name : List Nat
  prot : Bool
  mx : MkV
  lk : LkV
  ch : List (List Nat)
structure HdV where
  id : Int
  size : Int
  obj : Int
  seq : Int
  sn : List SnV
  mx : MkV
  lk : LkV
  ow : Int
  it : Int
  tg : Int
def objsOf (size object : Int) : Int := if size < 1 ∨ object < 1 then 0 else (size - 1) / object + 1
/-- is one string ahead of another? -/
def ltS (a b : List Nat) : Bool := Op.bytesLess (strOf a).toList (strOf b).toList
def MkV.B (m : MkV) (n : Int) : Bool := if m.on then decide (Good m.row) && decide ((m.row.length : Int) = n) else m.row.isEmpty && !m.good
def LkV.B (l : LkV) (size : Int) : Bool := if l.par.isEmpty then decide (l.ps = 0) && decide (l.ov = 0) else namedB l.par && decide (1 ≤ l.ps) && decide (0 ≤ l.ov) && decide (l.ov ≤ size)
def viewB (size obj : Int) (m : MkV) (l : LkV) : Bool := decide (0 ≤ size) && decide (size ≤ 4096) && m.B (objsOf size obj) && l.B size
/-- names that rise -/
def upB : List Nat → List (List Nat) → Bool
  | _, [] => true
  | last, c :: r => namedB c && ltS last c && upB c r
def SnV.chB (s : SnV) : Bool := upB [] s.ch && (s.prot || s.ch.isEmpty)
def snapB (obj seq last : Int) (s : SnV) : Bool := decide (last < s.num) && decide (s.num ≤ seq) && namedB s.name && viewB s.size obj s.mx s.lk && s.chB
def snapsB (obj seq : Int) : Int → List SnV → Bool
  | _, [] => true
  | last, s :: r => snapB obj seq last s && snapsB obj seq s.num r
def isObjB (n : Int) : Bool := n == 16 || n == 32 || n == 64 || n == 128 || n == 256
def HdV.itB (h : HdV) : Bool :=
  if h.it = 1 then decide (0 ≤ h.tg) && decide (h.tg ≤ 4096)
  else if h.it = 2 ∨ h.it = 3 then h.sn.any fun s => s.num == h.tg
  else if h.it = 0 ∨ h.it = 4 ∨ h.it = 5 then decide (h.tg = 0) else false
def HdV.snB (h : HdV) : Bool := decide (h.sn.length ≤ 16) && snapsB h.obj h.seq 0 h.sn && decide (h.sn.map SnV.name).Nodup
def HdV.B (h : HdV) : Bool := decide (0 ≤ h.id) && decide (0 ≤ h.seq) && isObjB h.obj && viewB h.size h.obj h.mx h.lk && h.snB && decide (-1 ≤ h.ow) && decide (h.ow < 8) && h.itB
/-! ### the text -/
def flagB (f : Bool) : List Nat := [if f then 1 else 0]
def txt (b : List Nat) : List Nat := numB b.length ++ b
def putMk (m : MkV) : List Nat := flagB m.on ++ (flagB m.good ++ txt (putM m.row))
def putLk (l : LkV) : List Nat := txt l.par ++ (numB l.ps ++ numB l.ov)
def putVw (m : MkV) (l : LkV) : List Nat := putMk m ++ putLk l
def putSn (s : SnV) : List Nat := numB s.num ++ (txt s.name ++ (numB s.size ++ (putVw s.mx s.lk ++ (flagB s.prot ++ (numB s.ch.length ++ s.ch.flatMap txt)))))
def HdV.put (h : HdV) : List Nat := numB h.id ++ (numB h.size ++ (numB h.obj ++ (numB h.seq ++ (numB h.sn.length ++ (h.sn.flatMap putSn ++ (putVw h.mx h.lk ++ (numB h.ow ++ (numB h.it ++ numB h.tg))))))))
/-! ### what is read -/
def marksOf (b : List Nat) : List Nat := if TakeOk b then takeM b (countOf b) else []
def RD.mkv (s : RD) : MkV := ⟨s.flag, s.flagTo.flag, marksOf s.flagTo.flagTo.bytes⟩
def RD.mkTo (s : RD) : RD := s.flagTo.flagTo.bytesTo
def RD.lkv (s : RD) : LkV := ⟨s.bytes, s.bytesTo.num, (s.bytesTo.take 8).num⟩
def RD.lkTo (s : RD) : RD := (s.bytesTo.take 8).take 8
def RD.chL : Nat → RD → List (List Nat)
  | 0, s => []
  | k + 1, s => if namedB s.bytes then s.bytes :: RD.chL k s.bytesTo else []
def RD.chT : Nat → RD → RD
  | 0, s => s
  | k + 1, s => if namedB s.bytes then RD.chT k s.bytesTo else s.bytesTo
/-- a reader's states in a snapshot -/
def RD.sn1 (s : RD) : RD := (s.take 8).bytesTo.take 8
def RD.sn2 (s : RD) : RD := s.sn1.mkTo.lkTo.flagTo
def RD.snv (s : RD) : SnV := ⟨s.num, (s.take 8).bytesTo.num, (s.take 8).bytes, s.sn1.mkTo.lkTo.flag, s.sn1.mkv, s.sn1.mkTo.lkv, RD.chL s.sn2.num.toNat (s.sn2.take 8)⟩
def RD.snTo (s : RD) : RD := RD.chT s.sn2.num.toNat (s.sn2.take 8)
/-- one behind the other -/
def itL {α σ : Type} (f : σ → α) (g : σ → σ) : Nat → σ → List α
  | 0, s => []
  | k + 1, s => f s :: itL f g k (g s)
def itT {σ : Type} (g : σ → σ) : Nat → σ → σ
  | 0, s => s
  | k + 1, s => itT g k (g s)
def RD.snL (k : Nat) (s : RD) : List SnV := itL RD.snv RD.snTo k s
def RD.snT (k : Nat) (s : RD) : RD := itT RD.snTo k s
def RD.four (s : RD) : RD := (((s.take 8).take 8).take 8).take 8
def RD.cnt (s : RD) : Nat := (min s.four.num 16).toNat
def RD.hd1 (s : RD) : RD := RD.snT s.cnt (s.four.take 8)
def RD.hd2 (s : RD) : RD := s.hd1.mkTo.lkTo
def RD.hdv (s : RD) : HdV := ⟨s.num, (s.take 8).num, ((s.take 8).take 8).num, (((s.take 8).take 8).take 8).num, RD.snL s.cnt (s.four.take 8), s.hd1.mkv, s.hd1.mkTo.lkv, s.hd2.num, (s.hd2.take 8).num, ((s.hd2.take 8).take 8).num⟩
def RD.hdTo (s : RD) : RD := ((s.hd2.take 8).take 8).take 8
/-! ### what was put is read back -/
def I64 (n : Int) : Prop := -9223372036854775808 ≤ n ∧ n ≤ 9223372036854775807
theorem txt_len (b : List Nat) : (txt b).length = 8 + b.length := by simp [txt, numB_len]
theorem take_num (n : Int) (rest : List Nat) (h : I64 n) : (⟨numB n ++ rest, false⟩ : RD).take 8 = ⟨rest, false⟩ ∧ (⟨numB n ++ rest, false⟩ : RD).num = n := by
  obtain ⟨e1, e2⟩ := RD.take_fit (s := ⟨numB n ++ rest, false⟩) (k := 8) rfl (by simp [numB_len])
  refine ⟨e1.trans (by rw [List.drop_left' (numB_len n)]), ?_⟩
  have : (⟨numB n ++ rest, false⟩ : RD).num = numOf ((⟨numB n ++ rest, false⟩ : RD).got 8) := rfl
  rw [this]
  exact (congrArg numOf (e2.trans (List.take_left' (numB_len n)))).trans (numOf_numB n h.1 h.2)
theorem take_bs (b rest : List Nat) : (⟨b ++ rest, false⟩ : RD).take (b.length : Nat) = ⟨rest, false⟩ ∧ (⟨b ++ rest, false⟩ : RD).got (b.length : Nat) = b := by
  obtain ⟨e1, e2⟩ := RD.take_fit (s := ⟨b ++ rest, false⟩) (k := b.length) rfl (by simp)
  exact ⟨e1.trans (by rw [List.drop_left' rfl]), e2.trans (List.take_left' rfl)⟩
theorem take_one (b : Nat) (rest : List Nat) : (⟨b :: rest, false⟩ : RD).take 1 = ⟨rest, false⟩ ∧ (⟨b :: rest, false⟩ : RD).byte = b := by
  have h := take_bs [b] rest
  refine ⟨h.1, ?_⟩
  have : (⟨b :: rest, false⟩ : RD).byte = ((⟨b :: rest, false⟩ : RD).got 1).headD 0 := rfl
  rw [this, show (⟨b :: rest, false⟩ : RD).got 1 = [b] from h.2]
  rfl
theorem bytes_back (b rest : List Nat) (hb : b.length ≤ 1000000) : (⟨txt b ++ rest, false⟩ : RD).bytesTo = ⟨rest, false⟩ ∧ (⟨txt b ++ rest, false⟩ : RD).bytes = b := by
  rw [txt, List.append_assoc]
  obtain ⟨t1, t2⟩ := take_num (b.length : Nat) (b ++ rest) (by unfold I64; omega)
  obtain ⟨u1, u2⟩ := take_bs b rest
  exact ⟨by rw [RD.bytesTo, t1, t2, u1], by rw [RD.bytes, t1, t2, u2]⟩
theorem flag_back (f : Bool) (rest : List Nat) : (⟨flagB f ++ rest, false⟩ : RD).flagTo = ⟨rest, false⟩ ∧ (⟨flagB f ++ rest, false⟩ : RD).flag = f := by
  obtain ⟨t1, t2⟩ := take_one (if f then 1 else 0) rest
  refine ⟨?_, ?_⟩
  · show RD.flagTo ⟨(if f then 1 else 0) :: rest, false⟩ = _
    rw [RD.flagTo, t1, t2, if_neg (by cases f <;> decide)]
  · show RD.flag ⟨(if f then 1 else 0) :: rest, false⟩ = _
    rw [RD.flag, t2]
    cases f <;> rfl
/-- what can be read back -/
structure MkV.Ok (m : MkV) : Prop where
  row : Good m.row
structure LkV.Ok (l : LkV) : Prop where
  par : l.par.length ≤ 1000000
  ps : I64 l.ps
  ov : I64 l.ov
structure SnV.Ok (s : SnV) : Prop where
  num : I64 s.num
  size : I64 s.size
  name : s.name.length ≤ 1000000
  mx : s.mx.Ok
  lk : s.lk.Ok
  ch : ∀ c ∈ s.ch, namedB c = true
  cn : s.ch.length ≤ 1000000
theorem marksOf_put {m : List Nat} (h : Good m) : marksOf (putM m) = m := by rw [marksOf, if_pos (ok_put h), count_put, take_put h]
theorem named_len {c : List Nat} (h : namedB c = true) : 1 ≤ c.length ∧ c.length ≤ 20 := by
  simp [namedB] at h
  omega
theorem putM_small {m : List Nat} (h : Good m) : (putM m).length ≤ 66 := by rw [putM_len]; have := h.1; omega
theorem mk_back (m : MkV) (rest : List Nat) (h : m.Ok) : (⟨putMk m ++ rest, false⟩ : RD).mkTo = ⟨rest, false⟩ ∧ (⟨putMk m ++ rest, false⟩ : RD).mkv = m := by
  unfold putMk RD.mkTo RD.mkv
  rw [List.append_assoc, List.append_assoc]
  obtain ⟨a1, a2⟩ := flag_back m.on (flagB m.good ++ (txt (putM m.row) ++ rest))
  obtain ⟨b1, b2⟩ := flag_back m.good (txt (putM m.row) ++ rest)
  obtain ⟨c1, c2⟩ := bytes_back (putM m.row) rest (by have := putM_small h.row; omega)
  rw [a1, a2, b1, b2, c1, c2, marksOf_put h.row]
  exact ⟨rfl, rfl⟩
theorem lk_back (l : LkV) (rest : List Nat) (h : l.Ok) : (⟨putLk l ++ rest, false⟩ : RD).lkTo = ⟨rest, false⟩ ∧ (⟨putLk l ++ rest, false⟩ : RD).lkv = l := by
  unfold putLk RD.lkTo RD.lkv
  rw [List.append_assoc, List.append_assoc]
  obtain ⟨a1, a2⟩ := bytes_back l.par (numB l.ps ++ (numB l.ov ++ rest)) h.par
  obtain ⟨b1, b2⟩ := take_num l.ps (numB l.ov ++ rest) h.ps
  obtain ⟨c1, c2⟩ := take_num l.ov rest h.ov
  rw [a1, a2, b1, b2, c1, c2]
  exact ⟨rfl, rfl⟩
theorem chs_back (rest : List Nat) : ∀ (l : List (List Nat)) , (∀ c ∈ l, namedB c = true) → RD.chL l.length ⟨l.flatMap txt ++ rest, false⟩ = l ∧ RD.chT l.length ⟨l.flatMap txt ++ rest, false⟩ = ⟨rest, false⟩
  | [], _ => ⟨rfl, rfl⟩
  | c :: l, h => by
    have ih := chs_back rest l fun c hc => h c (List.mem_cons_of_mem _ hc)
    have hc := h c (by simp)
    obtain ⟨a1, a2⟩ := bytes_back c (l.flatMap txt ++ rest) (by have := named_len hc; omega)
    rw [List.length_cons, RD.chL, RD.chT, List.flatMap_cons, List.append_assoc, a1, a2, if_pos hc, if_pos hc, ih.1, ih.2]
    exact ⟨rfl, rfl⟩
theorem sn_steps {s0 s1 s2 s3 s4 s5 s6 s7 s8 : RD} {num size : Int} {name : List Nat} {m : MkV} {l : LkV} {p : Bool} {n : Nat} {ch : List (List Nat)}
    (a : s0.take 8 = s1 ∧ s0.num = num) (b : s1.bytesTo = s2 ∧ s1.bytes = name) (c : s2.take 8 = s3 ∧ s2.num = size) (d : s3.mkTo = s4 ∧ s3.mkv = m) (f : s4.lkTo = s5 ∧ s4.lkv = l) (g : s5.flagTo = s6 ∧ s5.flag = p) (i : s6.take 8 = s7 ∧ s6.num = (n : Int)) (hc : RD.chL n s7 = ch ∧ RD.chT n s7 = s8) :
    s0.snTo = s8 ∧ s0.snv = ⟨num, size, name, p, m, l, ch⟩ := by
  have q1 : s0.sn1 = s3 := by unfold RD.sn1; rw [a.1, b.1, c.1]
  have q2 : s0.sn2 = s6 := by unfold RD.sn2; rw [q1, d.1, f.1, g.1]
  have ht : (n : Int).toNat = n := by omega
  refine ⟨?_, ?_⟩
  · unfold RD.snTo; rw [q2, i.1, i.2, ht, hc.2]
  · unfold RD.snv; rw [q2, q1, a.1, a.2, b.1, b.2, c.2, d.1, d.2, f.1, f.2, g.2, i.1, i.2, ht, hc.1]
theorem app_mid {s : RD} {a b : List Nat} (e : a = b) {s' : RD} {x : SnV} (h : (⟨b, false⟩ : RD).snTo = s' ∧ (⟨b, false⟩ : RD).snv = x) : (⟨a, false⟩ : RD).snTo = s' ∧ (⟨a, false⟩ : RD).snv = x := by rw [e]; exact h
theorem putSn_rest (s : SnV) (rest : List Nat) : putSn s ++ rest = numB s.num ++ (txt s.name ++ (numB s.size ++ (putMk s.mx ++ (putLk s.lk ++ (flagB s.prot ++ (numB s.ch.length ++ (s.ch.flatMap txt ++ rest))))))) := by
  unfold putSn putVw
  simp only [List.append_assoc]
theorem sn_back (s : SnV) (rest : List Nat) (h : s.Ok) : (⟨putSn s ++ rest, false⟩ : RD).snTo = ⟨rest, false⟩ ∧ (⟨putSn s ++ rest, false⟩ : RD).snv = s :=
  app_mid (s := ⟨[], false⟩) (putSn_rest s rest) (sn_steps (take_num s.num _ h.num) (bytes_back s.name _ h.name) (take_num s.size _ h.size) (mk_back s.mx _ h.mx) (lk_back s.lk _ h.lk) (flag_back s.prot _) (take_num (s.ch.length : Nat) _ (by have := h.cn; unfold I64; omega)) (chs_back rest s.ch h.ch))
theorem snL_step {s0 s1 s2 : RD} {x : SnV} {k : Nat} {l : List SnV} (h : s0.snTo = s1 ∧ s0.snv = x) (ih : RD.snL k s1 = l ∧ RD.snT k s1 = s2) : RD.snL (k + 1) s0 = x :: l ∧ RD.snT (k + 1) s0 = s2 := by
  unfold RD.snL RD.snT at *
  rw [itL, itT, h.1, h.2]
  exact ⟨congrArg _ ih.1, ih.2⟩
theorem snL_mid {a b : List Nat} (e : a = b) {s : RD} {k : Nat} {l : List SnV} (h : RD.snL k ⟨b, false⟩ = l ∧ RD.snT k ⟨b, false⟩ = s) : RD.snL k ⟨a, false⟩ = l ∧ RD.snT k ⟨a, false⟩ = s := by rw [e]; exact h
theorem sns_back (rest : List Nat) : ∀ (l : List SnV), (∀ s ∈ l, s.Ok) → RD.snL l.length ⟨l.flatMap putSn ++ rest, false⟩ = l ∧ RD.snT l.length ⟨l.flatMap putSn ++ rest, false⟩ = ⟨rest, false⟩
  | [], _ => ⟨rfl, rfl⟩
  | s :: l, h => snL_mid (b := putSn s ++ (l.flatMap putSn ++ rest)) (by rw [List.flatMap_cons, List.append_assoc]) (snL_step (sn_back s (l.flatMap putSn ++ rest) (h s (by simp))) (sns_back rest l fun c hc => h c (List.mem_cons_of_mem _ hc)))
structure HdV.Ok (h : HdV) : Prop where
  id : I64 h.id
  size : I64 h.size
  obj : I64 h.obj
  seq : I64 h.seq
  sn : ∀ s ∈ h.sn, s.Ok
  cn : h.sn.length ≤ 16
  mx : h.mx.Ok
  lk : h.lk.Ok
  ow : I64 h.ow
  it : I64 h.it
  tg : I64 h.tg
theorem hd_steps {s0 s1 s2 s3 s4 s5 s6 s7 s8 s9 s10 s11 : RD} {id size obj seq ow it to : Int} {m : MkV} {l : LkV} {n : Nat} {sn : List SnV} (hn : n ≤ 16)
    (a : s0.take 8 = s1 ∧ s0.num = id) (b : s1.take 8 = s2 ∧ s1.num = size) (c : s2.take 8 = s3 ∧ s2.num = obj) (d : s3.take 8 = s4 ∧ s3.num = seq) (f : s4.take 8 = s5 ∧ s4.num = (n : Int)) (hs : RD.snL n s5 = sn ∧ RD.snT n s5 = s6)
    (g : s6.mkTo = s7 ∧ s6.mkv = m) (i : s7.lkTo = s8 ∧ s7.lkv = l) (j : s8.take 8 = s9 ∧ s8.num = ow) (k : s9.take 8 = s10 ∧ s9.num = it) (e : s10.take 8 = s11 ∧ s10.num = to) :
    s0.hdTo = s11 ∧ s0.hdv = ⟨id, size, obj, seq, sn, m, l, ow, it, to⟩ := by
  have ht : (min (n : Int) 16).toNat = n := by omega
  have q0 : s0.four = s4 := by unfold RD.four; rw [a.1, b.1, c.1, d.1]
  have qc : s0.cnt = n := by unfold RD.cnt; rw [q0, f.2, ht]
  have q1 : s0.hd1 = s6 := by unfold RD.hd1; rw [q0, qc, f.1, hs.2]
  have q2 : s0.hd2 = s8 := by unfold RD.hd2; rw [q1, g.1, i.1]
  refine ⟨?_, ?_⟩
  · unfold RD.hdTo; rw [q2, j.1, k.1, e.1]
  · unfold RD.hdv; rw [q2, q1, qc, q0, f.1, hs.1, a.1, a.2, b.1, b.2, c.1, c.2, d.2, g.1, g.2, i.2, j.1, j.2, k.1, k.2, e.2]
theorem hd_put (h : HdV) : h.put = numB h.id ++ (numB h.size ++ (numB h.obj ++ (numB h.seq ++ (numB h.sn.length ++ (h.sn.flatMap putSn ++ (putMk h.mx ++ (putLk h.lk ++ (numB h.ow ++ (numB h.it ++ (numB h.tg ++ [])))))))))) := by
  unfold HdV.put putVw
  simp only [List.append_assoc, List.append_nil]
theorem hd_mid {a b : List Nat} (e : a = b) {s' : RD} {x : HdV} (h : (⟨b, false⟩ : RD).hdTo = s' ∧ (⟨b, false⟩ : RD).hdv = x) : (⟨a, false⟩ : RD).hdTo = s' ∧ (⟨a, false⟩ : RD).hdv = x := by rw [e]; exact h
theorem hd_back (h : HdV) (hk : h.Ok) : (⟨h.put, false⟩ : RD).hdTo = ⟨[], false⟩ ∧ (⟨h.put, false⟩ : RD).hdv = h :=
  hd_mid (hd_put h) (hd_steps hk.cn (take_num h.id _ hk.id) (take_num h.size _ hk.size) (take_num h.obj _ hk.obj) (take_num h.seq _ hk.seq) (take_num (h.sn.length : Nat) _ (by have := hk.cn; unfold I64; omega)) (sns_back _ h.sn hk.sn) (mk_back h.mx _ hk.mx) (lk_back h.lk _ hk.lk) (take_num h.ow _ hk.ow) (take_num h.it _ hk.it) (take_num h.tg [] hk.tg))
end Go.Proofs.Ytgddenhnpjoabaa

/-
  The document's answer for the wire: its numbers as bytes. Conditions: the sizes.
-/
namespace Go.Proofs.Ytgddenhnpjoabaa
open Go.RowKit
set_option linter.unusedSimpArgs false
set_option maxRecDepth 100000
set_option linter.unusedVariables false
theorem dnum_any (n : Int) (w : World) : Calls Try.prog 53 #[.int .i64 n] w fun e w' => ∃ v, e = .returned v ∧ Own w' w.heap.size v 8 (numB n) ∧ Below w.heap.size w w' := by
  have hu := nat64_lt n
  have hwn : IntKind.u64.wrap n = ((nat64 n : Nat) : Int) := by rw [IntKind.wrap_u64]; unfold nat64; omega
  generalize hq : nat64 n = u at *
  unfold numB
  rw [hq]
  go_enter Try.func53, Try.ntmps53
  go_wp2
  go_loopw [4, 3, 5] (fun v q i wr => ∃ k : Nat, k ≤ 8 ∧ i = .int .i64 k ∧ q = .int .u64 ((u / 256 ^ k : Nat) : Int) ∧ Own wr w.heap.size v k (le k u) ∧ Below w.heap.size w wr) (fun _ _ i _ => 8 - (intOf i).toNat)
  case atStart => exact ⟨0, by omega, rfl, by simp, Own.nil _ _, Below.refl _ _⟩
  case round =>
    obtain ⟨k, hk, rfl, rfl, ho, hb⟩ := hrel
    by_cases hlt : k < 8
    · obtain ⟨A1, c1, rfl, -, -, -⟩ := ho.form
      have HO := Lib.hid ho
      have Hb := Lib.hid hb
      clear ho hb
      obtain ⟨b, hvb, hb256, hbe⟩ : ∃ b : Nat, ((u / 256 ^ k : Nat) : Int) % 256 = (b : Int) ∧ b < 256 ∧ b = u / 256 ^ k % 256 := ⟨u / 256 ^ k % 256, by omega, Nat.mod_lt _ (by omega), rfl⟩
      obtain ⟨v2, hv2, hve⟩ : ∃ v2 : Nat, ((u / 256 ^ k : Nat) : Int) / 256 = (v2 : Int) ∧ v2 = u / 256 ^ (k + 1) := ⟨u / 256 ^ k / 256, by omega, by rw [Nat.div_div_eq_div_mul, Nat.pow_succ]⟩
      have hvlt : u / 256 ^ k ≤ u := Nat.div_le_self _ _
      have Hbe := Lib.hid hbe
      have Hve := Lib.hid hve
      clear hbe hve
      generalize hv : u / 256 ^ k = v at *
      have HS := Lib.hid (HO.out.alloc (.cells (u8s [b]).toArray 5))
      have hnew := Bytes.new wr [b] 5 (0, 0) (by simpa using hb256)
      have hbs := Lib.hid (Hb.out.alloc Hb.out.size (.cells (u8s [b]).toArray 5))
      go_wp2_with (refine app_bytes (.tmp 12) (.tmp 16) rfl rfl w.heap.size (.slice A1 k c1) k (le k u) rfl HS.out _ _ 1 1 [b] rfl hnew (by omega) hbs.out.size ?_
                   intro v3 w3 h3 g3 a3)
      go_roundw
      case rel =>
        refine ⟨k + 1, by omega, by go_num, by rw [Hve.out], ?_, below_own hbs.out HS.out (Nat.le_refl _) g3 hbs.out.size⟩
        rw [le_snoc, hv, ← Hbe.out]
        exact h3
      case measure => simp [intOf]; omega
    · obtain rfl : k = 8 := by omega
      go_wp2
      go_ret
      exact ⟨_, rfl, ho, hb⟩
theorem dbytes_any (A : Option Addr) (n c B : Nat) (bs : List Nat) (w : World) (hb : Bytes w B A n bs) (hn : n ≤ 9000000) :
    Calls Try.prog 54 #[.slice A n c] w fun e w' => ∃ v, e = .returned v ∧ Own w' w.heap.size v (8 + n) (numB n ++ bs) ∧ Below w.heap.size w w' := by
  go_enter Try.func54, Try.ntmps54
  go_wp2_with fail
  refine (dnum_any n w).mono ?_
  rintro e w1 ⟨v, rfl, h1, b1⟩
  have hb1 := hb.since b1
  obtain ⟨A1, c1, rfl, -, -, -⟩ := h1.form
  go_wp2_with (refine app_bytes (.tmp 5) (.tmp 6) rfl rfl w.heap.size (.slice A1 8 c1) 8 (numB n) rfl h1 B A n c bs rfl hb1 (by omega) b1.size ?_
               intro v3 w3 h3 g3 a3)
  go_ret
  exact ⟨v3, rfl, h3, below_own b1 h1 (Nat.le_refl _) g3 b1.size⟩
end Go.Proofs.Ytgddenhnpjoabaa

/-
  What the program's reader reads: a byte, a number, a flag, bytes, a text, numbers; its end. Conditions: the reader lies where it is said to.
-/
namespace Go.Proofs.Ytgddenhnpjoabaa
open Go.RowKit
set_option linter.unusedSimpArgs false
set_option maxRecDepth 100000
set_option linter.unusedVariables false
theorem byte_size1 : (Try.prog.info? 5).map (·.size) = some 1 := by kernel_rfl
/-- copy onto a whole block, of as many bytes or of none -/
theorem wp_copy_full {o : Oper} {a : Act} {w : World} {K : Act → World → Prop} {Q : Exit → Act → World → Prop} (x y : Operand) (ho : o.op = .call { callee := .builtin .copy, args := #[x, y], argTypes := #[23, 23] })
    (gb m : Nat) (t : TypeId) (cur : List Value) (hg : Blk w gb t cur.toArray) (hcur : cur.length = m) (hx : a.eval x = .slice (some ⟨gb, 0, none⟩) m m) (A : Option Addr) (k c B : Nat) (bs : List Nat) (hy : a.eval y = .slice A k c) (hb : Bytes w B A k bs) (hk : k = m ∨ k = 0) (hm : 0 < m)
    (h : ∀ w', Blk w' gb t (if k = 0 then cur else u8s bs).toArray → Only [gb] w w' → K (a.put o.dst (goInt k)) w') : o.wp Try.prog a w K Q := by
  rcases hk with rfl | rfl
  · obtain ⟨ad, rfl, hB, hc⟩ := hb.1.2 hm
    have hl : (u8s bs).length = k := by rw [u8s_length, hb.len]
    have hrun := run_copy_row (P := Try.prog) w 23 23 o.type 5 gb 0 k k ad k c cur.toArray t (u8s bs) Try.underlying23 byte_size1 hg (by rw [hl]; exact (Nat.min_self k).symm) hc (by simp [hl, hcur]) (oneCell_u8s _)
    unfold Oper.wp
    simp [execOp, ho, resolve, invoke, builtin, hx, hy, hrun, Result.andThen]
    rw [hl]
    refine h _ ?_ ?_
    · rw [if_neg (by omega)]
      have := setRow_heap w gb cur.toArray (u8s bs).toArray t (0, 0) hg
      have e : (u8s bs ++ List.drop k cur).toArray = (u8s bs).toArray := by rw [List.drop_of_length_le (by omega), List.append_nil]
      unfold Blk
      simpa [e, hl, hcur, List.drop_of_length_le (show cur.length ≤ k by omega)] using this
    · exact ⟨rfl, rfl, rfl, by simp [World.setRow], fun j hj hn => setRow_other w gb j _ (fun e => hn (by simp [e]))⟩
  · have hrun := run_copy_none (P := Try.prog) w 23 23 o.type 5 (some ⟨gb, 0, none⟩) A m m 0 c Try.underlying23 byte_size1 (Nat.zero_min m)
    unfold Oper.wp
    simp [execOp, ho, resolve, invoke, builtin, hx, hy, hrun, Result.andThen]
    exact h w (by simpa using hg) (Only.refl _ _)
theorem got_len (s : RD) (k : Nat) : (s.got k).length = k ∨ (s.got k).length = 0 := by
  unfold RD.got
  split
  · rename_i h
    simp [RD.fits] at h
    left
    rw [List.length_take]
    omega
  · exact .inr rfl
theorem unpacked_list (l : List Nat) (hl : l.length = 8) (hb : ∀ b ∈ l, b < 256) (w : World) :
    Calls Try.prog 143 #[.agg (u8s l).toArray] w fun e w' => e = .returned (.int .i64 (numOf l)) ∧ Below w.heap.size w w' := by
  match l, hl with
  | [b0, b1, b2, b3, b4, b5, b6, b7], _ => exact unpacked_any b0 b1 b2 b3 b4 b5 b6 b7 w (hb _ (by simp)) (hb _ (by simp)) (hb _ (by simp)) (hb _ (by simp)) (hb _ (by simp)) (hb _ (by simp)) (hb _ (by simp)) (hb _ (by simp))
def padded (m : Nat) (l : List Nat) : List Nat := if l.length = 0 then List.replicate m 0 else l
theorem numOf_padded (l : List Nat) : numOf (padded 8 l) = numOf l := by
  unfold padded
  split
  · rename_i h
    obtain rfl := List.eq_nil_of_length_eq_zero h
    simp [numOf, un, List.replicate]
  · rfl
theorem u8s_zeros (m : Nat) : u8s (List.replicate m 0) = List.replicate m (.int .u8 0) := by simp [u8s, u8]
theorem rnum_any (w : World) (base : Nat) (F : List Nat) (p : Option Addr) (s : RD) (h : Rd w base F p s) (hB : base ≤ w.heap.size) :
    Calls Try.prog 97 #[.pointer p] w fun e w' => e = .returned (.int .i64 s.num) ∧ RTo w base F p (s.take 8) w' := by
  obtain ⟨Zs, hz, hZs⟩ : ∃ Zs : List Value, (∀ w, (zeroValue 125).run Try.prog w = .ok (.agg Zs.toArray) w) ∧ Zs = u8s (List.replicate 8 0) := ⟨_, eight_zero, rfl⟩
  have hzl : Zs.length = 8 := by rw [hZs, u8s_length]; rfl
  have HZ := Lib.hid hZs
  clear hZs
  have B0 := Lib.hid (Blk.new w 125 Zs.toArray)
  have b0 := below_alloc w (.cells Zs.toArray 125)
  have H0 := Lib.hid (h.below b0)
  have hgw : w.heap.size ∉ F := fun hm => by have := h.under _ hm; omega
  have b0' := Lib.hid b0
  clear h b0
  go_enter Try.func97, Try.ntmps97
  go_wp2_with fail
  have hBw : base ≤ (w.alloc (.cells Zs.toArray 125)).heap.size := Nat.le_trans hB b0'.out.size
  generalize w.alloc (.cells Zs.toArray 125) = w0 at *
  generalize hgb : w.heap.size = gb at *
  refine any_begin (by kernel_rfl) ?_
  refine wpAny_take (i := 0) (v := .slice (some ⟨gb, 0, none⟩) 8 8) rfl (by kernel_rfl) (by kernel_rfl) (by kernel_rfl) (fun _ _ _ h => h) (Or.inl ⟨by rfl, fun w => by go_simp⟩) ?_
  simp only [Act.put, List.getElem_toArray, List.getElem_cons_succ, List.getElem_cons_zero, List.setIfInBounds_toArray, List.set_cons_zero, List.set_cons_succ]
  refine wpAny_take (i := 1) (v := .pointer p) rfl (by kernel_rfl) (by kernel_rfl) (by kernel_rfl) (fun _ _ _ h => h) (Or.inl ⟨by rfl, fun w => by kernel_rfl⟩) ?_
  simp only [Act.put, List.getElem_toArray, List.getElem_cons_succ, List.getElem_cons_zero, List.setIfInBounds_toArray, List.set_cons_zero, List.set_cons_succ]
  refine do_one (i := 2) (by kernel_rfl) rfl (by rfl) ?_
  simp only [Act.put, List.getElem_toArray, List.getElem_cons_succ, List.getElem_cons_zero, List.setIfInBounds_toArray, List.set_cons_zero, List.set_cons_succ]
  refine wp_called (by kernel_rfl) (take_any w0.drew base F p s 8 (H0.out.of (Nat.le_refl _) (fun _ _ => rfl)) (by omega) (by omega)) ?_
  rintro e w1 ⟨A, c, rfl, ⟨F1, r1, o1, f1⟩, ⟨B, hb⟩, -, -⟩
  refine ⟨_, rfl, ?_⟩
  simp only [Act.put, List.getElem_toArray, List.getElem_cons_succ, List.getElem_cons_zero, List.setIfInBounds_toArray, List.set_cons_zero, List.set_cons_succ]
  have B1 : Blk w1 gb 125 Zs.toArray := B0.out.of (o1.block gb B0.out.lt hgw)
  refine do_one (i := 3) (by kernel_rfl) rfl (by rfl) ?_
  simp only [Act.put, List.getElem_toArray, List.getElem_cons_succ, List.getElem_cons_zero, List.setIfInBounds_toArray, List.set_cons_zero, List.set_cons_succ]
  refine wp_copy_full (.tmp 4) (.tmp 6) rfl gb 8 125 Zs B1 hzl (by rfl) A _ c B _ (by rfl) hb (got_len s 8) (by omega) ?_
  intro w2 B2 o2
  simp only [Act.put, List.getElem_toArray, List.getElem_cons_succ, List.getElem_cons_zero, List.setIfInBounds_toArray, List.set_cons_zero, List.set_cons_succ]
  refine wpAny_done (by kernel_rfl) ?_ _
  refine NoPanic.normal ?_
  have hpad : (if (s.got 8).length = 0 then Zs else u8s (s.got 8)) = u8s (padded 8 (s.got 8)) := by
    unfold padded
    rw [HZ.out]
    split
    · rfl
    · rfl
  rw [hpad] at B2
  have hgood := (H0.out.good)
  have hpl : (padded 8 (s.got 8)).length = 8 := by
    unfold padded
    split
    · simp
    · exact (got_len s 8).resolve_right (by assumption)
  have hpb : ∀ b ∈ padded 8 (s.got 8), b < 256 := by
    unfold padded
    split
    · intro b hb; obtain ⟨_, rfl⟩ := List.mem_replicate.1 hb; omega
    · exact RD.got_lt hgood 8
  have R2 : RTo w base F p (s.take 8) w2 := by
    have hf : Fresh w F F1 := fun k hk => (f1 k hk).imp id (fun h => Nat.le_trans (show w.heap.size ≤ w0.drew.heap.size from b0'.out.size) h)
    refine ⟨F1, r1.of o2.size (fun k hk => o2.block k (r1.under k hk) (fun hm => ?_)), ((Only.of_below (w' := w0.drew) (by rw [hgb]; exact b0'.out.drew) F).trans (F' := F) o1 (Fresh.refl _ _)).trans o2 (fun k hk => .inr (by simp at hk; omega)), hf⟩
    simp at hm
    subst hm
    rcases f1 _ hk with h | h
    · exact hgw h
    · have : k < w0.heap.size := B0.out.lt
      have h' : w0.heap.size ≤ k := h
      omega
  have HR := Lib.hid R2
  have H2 := Lib.hid B2
  have hrg : w2.rangeAt gb 0 (u8s (padded 8 (s.got 8))) := B2.range
  have hi : (Try.prog.info? 125).map (·.size) = some (u8s (padded 8 (s.got 8))).length := by rw [u8s_length, hpl]; exact eight_size
  have hu := Try.underlying125
  have HP := Lib.hid (And.intro hpl hpb)
  clear hpad hpl hpb R2 B2 o2 hb B1 r1 o1 f1 hgood
  go_wp2_with (refine wpList_load_mid rfl 125 (.tmp 3) rfl gb 0 rfl (u8s (padded 8 (s.got 8))) _ hrg hu rfl hi ?_)
  refine (unpacked_list _ HP.out.1 HP.out.2 w2).mono ?_
  rintro e w3 ⟨rfl, b3⟩
  rw [numOf_padded]
  go_wp2
  go_ret
  exact ⟨rfl, HR.out.then_ b3⟩
theorem one_zero (w : World) : (zeroValue 185).run Try.prog w = .ok (.agg (u8s (List.replicate 1 0)).toArray) w := by kernel_rfl
theorem rbyte_any (w : World) (base : Nat) (F : List Nat) (p : Option Addr) (s : RD) (h : Rd w base F p s) (hB : base ≤ w.heap.size) :
    Calls Try.prog 145 #[.pointer p] w fun e w' => e = .returned (.int .u8 s.byte) ∧ RTo w base F p (s.take 1) w' := by
  obtain ⟨Zs, hz, hZs⟩ : ∃ Zs : List Value, (∀ w, (zeroValue 185).run Try.prog w = .ok (.agg Zs.toArray) w) ∧ Zs = u8s (List.replicate 1 0) := ⟨_, one_zero, rfl⟩
  have hzl : Zs.length = 1 := by rw [hZs, u8s_length]; rfl
  have HZ := Lib.hid hZs
  clear hZs
  have B0 := Lib.hid (Blk.new w 185 Zs.toArray)
  have b0 := below_alloc w (.cells Zs.toArray 185)
  have H0 := Lib.hid (h.below b0)
  have hgw : w.heap.size ∉ F := fun hm => by have := h.under _ hm; omega
  have b0' := Lib.hid b0
  clear h b0
  go_enter Try.func145, Try.ntmps145
  go_wp2_with fail
  have hBw : base ≤ (w.alloc (.cells Zs.toArray 185)).heap.size := Nat.le_trans hB b0'.out.size
  generalize w.alloc (.cells Zs.toArray 185) = w0 at *
  generalize hgb : w.heap.size = gb at *
  refine any_begin (by kernel_rfl) ?_
  refine wpAny_take (i := 0) (v := .slice (some ⟨gb, 0, none⟩) 1 1) rfl (by kernel_rfl) (by kernel_rfl) (by kernel_rfl) (fun _ _ _ h => h) (Or.inl ⟨by rfl, fun w => by go_simp⟩) ?_
  simp only [Act.put, List.getElem_toArray, List.getElem_cons_succ, List.getElem_cons_zero, List.setIfInBounds_toArray, List.set_cons_zero, List.set_cons_succ]
  refine wpAny_take (i := 1) (v := .pointer p) rfl (by kernel_rfl) (by kernel_rfl) (by kernel_rfl) (fun _ _ _ h => h) (Or.inl ⟨by rfl, fun w => by kernel_rfl⟩) ?_
  simp only [Act.put, List.getElem_toArray, List.getElem_cons_succ, List.getElem_cons_zero, List.setIfInBounds_toArray, List.set_cons_zero, List.set_cons_succ]
  refine do_one (i := 2) (by kernel_rfl) rfl (by rfl) ?_
  simp only [Act.put, List.getElem_toArray, List.getElem_cons_succ, List.getElem_cons_zero, List.setIfInBounds_toArray, List.set_cons_zero, List.set_cons_succ]
  refine wp_called (by kernel_rfl) (take_any w0.drew base F p s 1 (H0.out.of (Nat.le_refl _) (fun _ _ => rfl)) (by omega) (by omega)) ?_
  rintro e w1 ⟨A, c, rfl, ⟨F1, r1, o1, f1⟩, ⟨B, hb⟩, -, -⟩
  refine ⟨_, rfl, ?_⟩
  simp only [Act.put, List.getElem_toArray, List.getElem_cons_succ, List.getElem_cons_zero, List.setIfInBounds_toArray, List.set_cons_zero, List.set_cons_succ]
  have B1 : Blk w1 gb 185 Zs.toArray := B0.out.of (o1.block gb B0.out.lt hgw)
  refine do_one (i := 3) (by kernel_rfl) rfl (by rfl) ?_
  simp only [Act.put, List.getElem_toArray, List.getElem_cons_succ, List.getElem_cons_zero, List.setIfInBounds_toArray, List.set_cons_zero, List.set_cons_succ]
  refine wp_copy_full (.tmp 4) (.tmp 6) rfl gb 1 185 Zs B1 hzl (by rfl) A _ c B _ (by rfl) hb (got_len s 1) (by omega) ?_
  intro w2 B2 o2
  simp only [Act.put, List.getElem_toArray, List.getElem_cons_succ, List.getElem_cons_zero, List.setIfInBounds_toArray, List.set_cons_zero, List.set_cons_succ]
  refine wpAny_done (by kernel_rfl) ?_ _
  refine NoPanic.normal ?_
  have hpad : (if (s.got 1).length = 0 then Zs else u8s (s.got 1)) = u8s (padded 1 (s.got 1)) := by
    unfold padded
    rw [HZ.out]
    split
    · rfl
    · rfl
  rw [hpad] at B2
  have R2 : RTo w base F p (s.take 1) w2 := by
    have hf : Fresh w F F1 := fun k hk => (f1 k hk).imp id (fun h => Nat.le_trans (show w.heap.size ≤ w0.drew.heap.size from b0'.out.size) h)
    refine ⟨F1, r1.of o2.size (fun k hk => o2.block k (r1.under k hk) (fun hm => ?_)), ((Only.of_below (w' := w0.drew) (by rw [hgb]; exact b0'.out.drew) F).trans (F' := F) o1 (Fresh.refl _ _)).trans o2 (fun k hk => .inr (by simp at hk; omega)), hf⟩
    simp at hm
    subst hm
    rcases f1 _ hk with h | h
    · exact hgw h
    · have : k < w0.heap.size := B0.out.lt
      have h' : w0.heap.size ≤ k := h
      omega
  have hcell : w2.cell? ⟨gb, 0, none⟩ = some (.int .u8 s.byte) := by
    rw [B2.cell]
    unfold RD.byte padded
    cases hg : s.got 1 with
    | nil => rfl
    | cons b l => rfl
  have HR := Lib.hid R2
  clear hpad R2 B2 o2 hb B1 r1 o1 f1
  go_wp2
  go_ret
  exact ⟨rfl, HR.out⟩
theorem rflag_any (w : World) (base : Nat) (F : List Nat) (p : Option Addr) (s : RD) (h : Rd w base F p s) (hB : base ≤ w.heap.size) :
    Calls Try.prog 99 #[.pointer p] w fun e w' => e = .returned (.bool s.flag) ∧ RTo w base F p s.flagTo w' := by
  have hby := RD.byte_lt h.good
  have hfl : ((s.byte : Int) == 1) = s.flag := by unfold RD.flag; rw [Bool.eq_iff_iff, beq_iff_eq, beq_iff_eq]; omega
  by_cases h1 : 1 < s.byte
  · have hd : decide (1 < (s.byte : Int)) = true := by simp; omega
    have hto : s.flagTo = RD.spoilt := by unfold RD.flagTo; rw [if_pos h1]
    rw [hto]
    go_enter Try.func99, Try.ntmps99
    go_wp2_with fail
    refine (rbyte_any w base F p s h hB).mono ?_
    rintro e w1 ⟨rfl, F1, r1, o1, f1⟩
    go_wp2_with fail
    refine (spoil_any w1 base F1 p _ r1).mono ?_
    rintro e w2 ⟨rfl, r2⟩
    go_wp2
    go_ret
    exact ⟨rfl, r2.after o1 f1⟩
  · have hd : decide (1 < (s.byte : Int)) = false := by simp; omega
    have hto : s.flagTo = s.take 1 := by unfold RD.flagTo; rw [if_neg h1]
    rw [hto]
    go_enter Try.func99, Try.ntmps99
    go_wp2_with fail
    refine (rbyte_any w base F p s h hB).mono ?_
    rintro e w1 ⟨rfl, r1⟩
    go_wp2
    go_ret
    exact ⟨rfl, r1⟩
theorem num_range (s : RD) : -9223372036854775808 ≤ s.num ∧ s.num ≤ 9223372036854775807 := numOf_range _
theorem RD.got_le (s : RD) (n : Int) : (s.got n).length ≤ s.bs.length := by
  unfold RD.got
  split
  · rw [List.length_take]; omega
  · simp
theorem RD.take_le (s : RD) (n : Int) : (s.take n).bs.length ≤ s.bs.length := by
  unfold RD.take
  split
  · simp
  · simp [RD.spoilt]
theorem rbytes_any (w : World) (base : Nat) (F : List Nat) (p : Option Addr) (s : RD) (h : Rd w base F p s) (hB : base ≤ w.heap.size) (hs : s.bs.length ≤ 9000000) :
    Calls Try.prog 148 #[.pointer p] w fun e w' => ∃ v F', e = .returned v ∧ Own w' w.heap.size v s.bytes.length s.bytes ∧ Rd w' base F' p s.bytesTo ∧ Only F w w' ∧ Fresh w F F' ∧ (∀ b ∈ s.bytes, b < 256) ∧ (∀ k, v.ownBlock = some k → k ∉ F') := by
  have hgot : s.bytes.length ≤ 10000000 := by have := RD.got_le (s.take 8) s.num; have := RD.take_le s 8; unfold RD.bytes; omega
  have hlt := RD.got_lt (RD.take_good h.good 8) s.num
  have hFu := h.under
  go_enter Try.func148, Try.ntmps148
  go_wp2_with fail
  refine (rnum_any w base F p s h hB).mono ?_
  rintro e w1 ⟨rfl, F1, r1, o1, f1⟩
  go_wp2_with fail
  refine (take_any w1 base F1 p (s.take 8) s.num r1 (num_range s).1 (num_range s).2).mono ?_
  rintro e w2 ⟨A, c, rfl, r2, ⟨B, hb⟩, -, -⟩
  go_wp2_with fail
  refine (clone_any A _ c s.bytes w2 B hgot hb).mono ?_
  rintro e w3 ⟨v, rfl, h3, b3⟩
  go_wp2
  go_ret
  have R2 := r2.after o1 f1
  obtain ⟨F3, q1, q2, q3⟩ := R2
  have hq2 : Only F w w2 := q2
  refine ⟨v, F3, rfl, h3.weaken q2.size, q1.below b3, q2.trans (Only.of_below b3 F3) q3, q3, hlt, fun k hk hm => ?_⟩
  have h4 := (World.ownsRow.lt h3 k hk).1
  have h5 := q1.under k hm
  omega
theorem rtext_any (w : World) (base : Nat) (F : List Nat) (p : Option Addr) (s : RD) (h : Rd w base F p s) (hB : base ≤ w.heap.size) :
    Calls Try.prog 144 #[.pointer p] w fun e w' => e = .returned (.string (strOf s.bytes)) ∧ RTo w base F p s.bytesTo w' := by
  go_enter Try.func144, Try.ntmps144
  go_wp2_with fail
  refine (rnum_any w base F p s h hB).mono ?_
  rintro e w1 ⟨rfl, F1, r1, o1, f1⟩
  go_wp2_with fail
  refine (take_any w1 base F1 p (s.take 8) s.num r1 (num_range s).1 (num_range s).2).mono ?_
  rintro e w2 ⟨A, c, rfl, r2, ⟨B, hb⟩, -, -⟩
  have hcv := str_of (P := Try.prog) hb c 23 9 5 Try.underlying23 Try.underlying5 Try.underlying9
  go_wp2
  go_ret
  exact ⟨rfl, r2.after o1 f1⟩
theorem newr_any (A : Option Addr) (n c : Nat) (bs : List Nat) (w : World) (B : Nat) (hn : n ≤ 9000000) (hb : Bytes w B A n bs) :
    Calls Try.prog 51 #[.slice A n c] w fun e w' => ∃ g F, e = .returned (.pointer (some ⟨g, 0, none⟩)) ∧ Rd w' w.heap.size F (some ⟨g, 0, none⟩) ⟨bs, false⟩ ∧ Below w.heap.size w w' := by
  go_enter Try.func51, Try.ntmps51
  go_wp2_with fail
  refine (clone_any A n c bs w B (by omega) hb).mono ?_
  rintro e w1 ⟨v, rfl, h1, b1⟩
  obtain ⟨A1, c1, rfl, hc1, hc2, hA1⟩ := h1.form
  go_wp2
  go_ret
  have hl := hb.len
  subst hl
  refine ⟨w1.heap.size, w1.heap.size :: (A1.map Addr.block).toList, rfl, .inr ⟨_, rfl, A1, c1, rfl, Blk.new _ _ _, ?_, hc1, hc2, b1.size, fun a ha => ?_, ⟨fun e => (by cases e), hb.2⟩⟩, b1.alloc b1.size _⟩
  · exact ((h1.bytes hb.2).since (below_alloc _ _)).more (by simp)
  · rcases hA1 with ⟨rfl, -⟩ | ⟨g, rfl, hg1, hg2⟩
    · cases ha
    · injection ha with ha
      subst ha
      exact ⟨hg1, Nat.lt_of_lt_of_le hg2 (by simp), Nat.ne_of_lt hg2⟩
end Go.Proofs.Ytgddenhnpjoabaa

/-
  What the program's reader reads as numbers. Conditions: the reader lies where it is said to; it has no more than nine million bytes.
-/
namespace Go.Proofs.Ytgddenhnpjoabaa
open Go.RowKit
set_option linter.unusedSimpArgs false
set_option maxRecDepth 100000
set_option linter.unusedVariables false
theorem made_same (m k : Nat) (v : Value) (hm : 0 < m) : madeCells (List.replicate m v).toArray k = (List.replicate k v).toArray := by
  unfold madeCells
  apply Array.ext
  · simp
  · intro i h1 h2
    have h3 : i % m < m := Nat.mod_lt _ hm
    have h4 : i % (List.replicate m v).toArray.size < (List.replicate m v).toArray.size := by simpa using h3
    rw [Array.getElem_map, Array.getElem_range, getElem!_pos (List.replicate m v).toArray (i % (List.replicate m v).toArray.size) h4]
    simp
theorem int_info : (Try.prog.info? 3).map (fun i => (i.zero, i.size, i.bytes)) = some (some (.int .i64 0), 1, 8) := by kernel_rfl
/-- numbers of the call's own -/
def OwnI (w : World) (base : Nat) (v : Value) (n : Nat) (l : List Int) : Prop := w.ownsRow base 3 1 v n (i64s l)
theorem OwnI.ints {w : World} {base n c : Nat} {A : Option Addr} {l : List Int} (h : OwnI w base (.slice A n c) n l) : Ints w w.heap.size A n l := Reads.of_own h
theorem OwnI.weaken {w : World} {base base' n : Nat} {v : Value} {l : List Int} (h : OwnI w base v n l) (hb : base' ≤ base) : OwnI w base' v n l := row_weaken h hb
theorem OwnI.form {w : World} {base : Nat} {v : Value} {n : Nat} {l : List Int} (h : OwnI w base v n l) : ∃ (A : Option Addr) (cap : Nat), v = .slice A n cap ∧ ∀ a, A = some a → base ≤ a.block := by
  rcases h.2 with ⟨rfl, hx⟩ | ⟨g, cap, cur, rfl, hbg, hg, hnc, hcm, hcs, hpre⟩
  · have : n = 0 := by have := h.1; rw [hx] at this; simp at this; omega
    subst this
    exact ⟨none, 0, rfl, fun a ha => by cases ha⟩
  · exact ⟨some ⟨g, 0, none⟩, cap, rfl, fun a ha => by injection ha with ha; subst ha; exact hbg⟩
theorem OwnI.of_blk {w : World} {base g n : Nat} {l : List Int} (h : Blk w g 3 (i64s l).toArray) (hl : l.length = n) (hb : base ≤ g) (hn : n ≤ 9000000) : OwnI w base (.slice (some ⟨g, 0, none⟩) n n) n l :=
  ⟨by rw [i64s_length]; omega, .inr ⟨g, n, _, rfl, hb, h, Nat.le_refl _, by simp [maxLen]; omega, by simp [i64s_length, hl], by rw [List.take_of_length_le (by simp [i64s_length, hl])]⟩⟩
def filling (l : List Int) (q : Nat) : List Value := i64s l ++ List.replicate (q - l.length) (.int .i64 0)
theorem filling_set (l : List Int) (q : Nat) (x : Int) (h : l.length < q) : (filling l q).toArray.setIfInBounds l.length (.int .i64 x) = (filling (l ++ [x]) q).toArray := by
  unfold filling
  have e : q - l.length = (q - (l ++ [x]).length) + 1 := by simp; omega
  rw [e, List.replicate_succ]
  simp only [List.setIfInBounds_toArray]
  congr 1
  rw [List.set_append_right _ _ (by rw [i64s_length]; exact Nat.le_refl _), i64s_length, Nat.sub_self, List.set_cons_zero]
  simp [i64s]
theorem filling_cell (l : List Int) (q : Nat) (h : l.length < q) : (filling l q).toArray[l.length]? = some (.int .i64 0) := by
  unfold filling
  rw [List.getElem?_toArray, List.getElem?_append_right (by rw [i64s_length]; exact Nat.le_refl _), i64s_length, Nat.sub_self, List.getElem?_replicate, if_pos (by omega)]
end Go.Proofs.Ytgddenhnpjoabaa

/-
  The document's reader. Conditions: it lies where it is said to; its bytes lie below what the call may write.
-/
namespace Go.Proofs.Ytgddenhnpjoabaa
open Go.RowKit
set_option linter.unusedSimpArgs false
set_option maxRecDepth 100000
set_option linter.unusedVariables false
def Mr (w : World) (base g : Nat) (s : RD) : Prop :=
  ∃ A c, Blk w g 108 #[.slice A s.bs.length c, .bool s.bad] ∧ Bytes w base A s.bs.length s.bs ∧ s.bs.length ≤ c ∧ c ≤ maxLen ∧ base ≤ g ∧ s.Good
section
variable {w w' : World} {base g : Nat} {s : RD}
theorem Mr.of (h : Mr w base g s) (hb : Below base w w') (hk : w'.heap[g]? = w.heap[g]?) : Mr w' base g s := by
  obtain ⟨A, c, h1, h2, r⟩ := h
  exact ⟨A, c, h1.of hk, h2.below hb, r⟩
theorem Mr.lt (h : Mr w base g s) : g < w.heap.size := by
  obtain ⟨A, c, h1, _⟩ := h
  exact h1.lt
theorem Mr.over (h : Mr w base g s) : base ≤ g := by
  obtain ⟨A, c, _, _, _, _, h, _⟩ := h
  exact h
theorem Mr.good (h : Mr w base g s) : s.Good := by
  obtain ⟨A, c, _, _, _, _, _, h⟩ := h
  exact h
theorem Mr.below (h : Mr w base g s) (hb : Below w.heap.size w w') : Mr w' base g s :=
  h.of (hb.mono (Nat.le_of_lt (Nat.lt_of_le_of_lt h.over h.lt))) (hb.block g h.lt)
end
theorem mspoil_cells {w : World} {base g : Nat} {s : RD} (h : Mr w base g s) : Mr ((w.setCell ⟨g, 1, none⟩ (.bool true)).setCell ⟨g, 0, none⟩ (.slice none 0 0)) base g RD.spoilt ∧ Only [g] w ((w.setCell ⟨g, 1, none⟩ (.bool true)).setCell ⟨g, 0, none⟩ (.slice none 0 0)) := by
  obtain ⟨A, c, h1, h2, h3, h4, h5, h6⟩ := h
  refine ⟨⟨none, 0, ?_, ⟨Reads.none_, fun b hb => by cases hb⟩, Nat.le_refl _, by simp [maxLen], h5, RD.spoilt_good⟩, ((Only.refl _ _).setCell (.inl (by simp)) _).setCell (.inl (by simp)) _⟩
  exact (h1.set_ 1 (.bool true)).set_ 0 (.slice none 0 0)
theorem mcut_cells {w' : World} {base g k : Nat} {s : RD} {A : Option Addr} {c : Nat} (h1 : Blk w' g 108 #[.slice A s.bs.length c, .bool s.bad]) (h2 : Bytes w' base A s.bs.length s.bs) (h3 : s.bs.length ≤ c) (h4 : c ≤ maxLen) (h5 : base ≤ g) (h6 : s.Good) (hk : k ≤ s.bs.length) (hbad : s.bad = false) :
    Mr (w'.setCell ⟨g, 0, none⟩ (.slice (if c = k then A else A.map (·.add k)) (s.bs.length - k) (c - k))) base g ⟨s.bs.drop k, false⟩ := by
  have hcut : Bytes w' base (if c = k then A else A.map (·.add k)) (s.bs.length - k) (s.bs.drop k) := by
    have := h2.1.cut hk h3
    rw [Nat.mul_one, u8s, ← List.map_drop] at this
    exact ⟨this, fun b hb => h2.2 b (List.mem_of_mem_drop hb)⟩
  refine ⟨(if c = k then A else A.map (·.add k)), c - k, ?_, ?_, ?_, by omega, h5, ⟨fun e => (by cases e), fun b hb => h6.2 b (List.mem_of_mem_drop hb)⟩⟩
  · have := h1.set_ 0 (.slice (if c = k then A else A.map (·.add k)) (s.bs.length - k) (c - k))
    rw [hbad] at this
    simpa using this
  · simp only [List.length_drop]
    exact hcut.setCell h5 _
  · simp only [List.length_drop]; omega
theorem mtake_any (w : World) (base g : Nat) (s : RD) (n : Int) (h : Mr w base g s) (hn1 : -9223372036854775808 ≤ n) (hn2 : n ≤ 9223372036854775807) (hs : s.bs.length ≤ 9000000) :
    Calls Try.prog 104 #[.pointer (some ⟨g, 0, none⟩), .int .i64 n] w fun e w' => ∃ v, e = .returned v ∧ Own w' w.heap.size v (s.got n).length (s.got n) ∧ Mr w' base g (s.take n) ∧ Only [g] w w' := by
  have hH := h
  obtain ⟨A, c, h1, h2, h3, h4, h5, h6⟩ := h
  have hc0 : w.cell? ⟨g, 0, none⟩ = some (.slice A s.bs.length c) := by rw [h1.cell]; rfl
  have hc1 : w.cell? ⟨g, 1, none⟩ = some (.bool s.bad) := by rw [h1.cell]; rfl
  have hf0 : w.frozen? ⟨g, 0, none⟩ = false := h1.frozen _
  have hf1 : w.frozen? ⟨g, 1, none⟩ = false := h1.frozen _
  by_cases hbad : s.bad = true
  · obtain ⟨e1, e2⟩ := RD.take_un (s := s) (n := n) (.inr (.inr hbad))
    rw [e1, e2]
    rw [hbad] at hc1
    have hsp := Lib.hid (mspoil_cells hH)
    clear hH
    go_enter Try.func104, Try.ntmps104
    go_wp2
    go_ret
    exact ⟨_, rfl, Own.nil _ _, hsp.out⟩
  · have hbad' : s.bad = false := by simpa using hbad
    rw [hbad'] at hc1
    have hsp := Lib.hid (mspoil_cells hH)
    clear hH
    by_cases h0 : n < 0
    · obtain ⟨e1, e2⟩ := RD.take_un (s := s) (.inl h0)
      rw [e1, e2]
      have hd : decide (n < 0) = true := by simpa using h0
      go_enter Try.func104, Try.ntmps104
      go_wp2
      go_ret
      exact ⟨_, rfl, Own.nil _ _, hsp.out⟩
    · have hd : decide (n < 0) = false := by simpa using h0
      by_cases hl : (s.bs.length : Int) < n
      · obtain ⟨e1, e2⟩ := RD.take_un (s := s) (n := n) (.inr (.inl hl))
        rw [e1, e2]
        have hd2 : decide ((s.bs.length : Int) < n) = true := by simpa using hl
        go_enter Try.func104, Try.ntmps104
        go_wp2
        go_ret
        exact ⟨_, rfl, Own.nil _ _, hsp.out⟩
      · have hd2 : decide ((s.bs.length : Int) < n) = false := by simpa using hl
        obtain ⟨k, rfl⟩ := Int.eq_ofNat_of_zero_le (show 0 ≤ n by omega)
        have hkl : k ≤ s.bs.length := by omega
        obtain ⟨e1, e2⟩ := RD.take_fit hbad' hkl
        rw [e1, e2]
        have hlen : (s.bs.take k).length = k := by rw [List.length_take]; omega
        unfold maxLen at h4
        have q1 : (0 : Int) ≤ (k : Int) := by omega
        have q2 : (k : Int) ≤ (c : Int) := by omega
        have q3 : (k : Int) ≤ (s.bs.length : Int) := by omega
        have hkc : k ≤ c := by omega
        have bA := below_alloc w (.cells #[] 5)
        have hsrc : Bytes (w.alloc (.cells #[] 5)) base A k (s.bs.take k) := (h2.take hkl).since bA
        have H1 := Lib.hid h1
        have H2 := Lib.hid h2
        have H6 := Lib.hid h6
        have HSP := Lib.hid hsrc
        have hgl := h1.lt
        clear hsp hsrc h1 h2 h6
        by_cases hck : c = k
        · go_enter Try.func104, Try.ntmps104
          go_wp2_with (refine app_bytes (.tmp 29) (.tmp 35) rfl rfl w.heap.size (.slice (some ⟨w.heap.size, 0, none⟩) 0 0) 0 [] rfl (Own.new w w.heap.size (Nat.le_refl _)) base A k _ (s.bs.take k) rfl HSP.out (by omega) (by simp) ?_
                       intro v3 w3 h3' g3 a3
                       have b3 : Below w.heap.size w w3 := below_own (below_alloc w _) (Own.new w w.heap.size (Nat.le_refl _)) (Nat.le_refl _) g3 (by simp)
                       have c30 : w3.cell? ⟨g, 0, none⟩ = some (.slice A s.bs.length c) := by rw [(H1.out.below b3 hgl).cell]; rfl
                       have f30 : w3.frozen? ⟨g, 0, none⟩ = false := (H1.out.below b3 hgl).frozen _)
          go_ret
          have hM := mcut_cells (k := k) (H1.out.below b3 hgl) (H2.out.since b3) h3 h4 h5 H6.out hkl hbad'
          have hO : Own w3 w.heap.size v3 k (s.bs.take k) := by simpa using h3'
          have hne : ∀ k ∈ rowOf v3, k ≠ g := fun j hj e => by
            have := (World.ownsRow.lt hO j (mem_rowOf.1 hj)).1
            omega
          rw [if_pos hck, show c - k = 0 by omega] at hM
          subst hck
          exact ⟨v3, rfl, row_of hO (fun j hj => Below.heap_setCell _ _ _ _ (hne j hj)), hM, (Only.of_below b3 [g]).setCell (.inl (by simp)) _⟩
        · go_enter Try.func104, Try.ntmps104
          go_wp2_with (refine app_bytes (.tmp 29) (.tmp 35) rfl rfl w.heap.size (.slice (some ⟨w.heap.size, 0, none⟩) 0 0) 0 [] rfl (Own.new w w.heap.size (Nat.le_refl _)) base A k _ (s.bs.take k) rfl HSP.out (by omega) (by simp) ?_
                       intro v3 w3 h3' g3 a3
                       have b3 : Below w.heap.size w w3 := below_own (below_alloc w _) (Own.new w w.heap.size (Nat.le_refl _)) (Nat.le_refl _) g3 (by simp)
                       have c30 : w3.cell? ⟨g, 0, none⟩ = some (.slice A s.bs.length c) := by rw [(H1.out.below b3 hgl).cell]; rfl
                       have f30 : w3.frozen? ⟨g, 0, none⟩ = false := (H1.out.below b3 hgl).frozen _)
          go_ret
          have hM := mcut_cells (k := k) (H1.out.below b3 hgl) (H2.out.since b3) h3 h4 h5 H6.out hkl hbad'
          have hO : Own w3 w.heap.size v3 k (s.bs.take k) := by simpa using h3'
          have hne : ∀ k ∈ rowOf v3, k ≠ g := fun j hj e => by
            have := (World.ownsRow.lt hO j (mem_rowOf.1 hj)).1
            omega
          rw [if_neg hck] at hM
          exact ⟨v3, rfl, row_of hO (fun j hj => Below.heap_setCell _ _ _ _ (hne j hj)), hM, (Only.of_below b3 [g]).setCell (.inl (by simp)) _⟩
end Go.Proofs.Ytgddenhnpjoabaa

/-
  What the document's reader reads. Conditions: it lies where it is said to.
-/
namespace Go.Proofs.Ytgddenhnpjoabaa
open Go.RowKit
set_option linter.unusedSimpArgs false
set_option maxRecDepth 100000
set_option linter.unusedVariables false
theorem un_drop (l : List Nat) (k b : Nat) (h : l[k]? = some b) : un (l.drop k) = b + 256 * un (l.drop (k + 1)) := by
  have hk : k < l.length := (List.getElem?_eq_some_iff.1 h).1
  rw [List.drop_eq_getElem_cons hk, un]
  have : l[k] = b := (List.getElem?_eq_some_iff.1 h).2
  rw [this]
theorem un_drop_lt (l : List Nat) (k : Nat) (hl : l.length ≤ 8) (hb : ∀ b ∈ l, b < 256) : un (l.drop (k + 1)) < 72057594037927936 := by
  have h := un_lt (l.drop (k + 1)) (fun b hm => hb b (List.mem_of_mem_drop hm))
  have h2 : (l.drop (k + 1)).length ≤ 7 := by rw [List.length_drop]; omega
  have h3 : (256 : Nat) ^ (l.drop (k + 1)).length ≤ 256 ^ 7 := Nat.pow_le_pow_right (by omega) h2
  have h4 : (256 : Nat) ^ 7 = 72057594037927936 := by decide
  omega
theorem mnum_any (w : World) (base g : Nat) (s : RD) (h : Mr w base g s) (hs : s.bs.length ≤ 9000000) :
    Calls Try.prog 62 #[.pointer (some ⟨g, 0, none⟩)] w fun e w' => e = .returned (.int .i64 s.num) ∧ Mr w' base g (s.take 8) ∧ Only [g] w w' := by
  have hg := RD.got_lt h.good 8
  have hgl := got_len s 8
  have hnum : s.num = numOf (s.got 8) := rfl
  rw [hnum]
  go_enter Try.func62, Try.ntmps62
  go_wp2_with fail
  refine (mtake_any w base g s 8 h (by omega) (by omega) hs).mono ?_
  rintro e w1 ⟨v, rfl, h1, m1, o1⟩
  obtain ⟨A1, c1, rfl, -, -, -⟩ := h1.form
  have hby := h1.bytes hg
  have h8 : (s.got 8).length ≤ 8 := by
    rcases hgl with h | h
    · have h' : (s.got 8).length = 8 := h
      omega
    · have h' : (s.got 8).length = 0 := h
      omega
  have HM := Lib.hid (And.intro m1 o1)
  clear h1 m1 o1 hgl hnum
  generalize hq : s.got 8 = l at *
  have HQ := Lib.hid hq
  clear hq
  have HB := Lib.hid hby
  have HG := Lib.hid hg
  clear hby hg
  go_wp2
  go_loop [4, 5] (fun u i => ∃ k : Nat, k ≤ l.length ∧ i = .int .i64 ((k : Int) - 1) ∧ u = .int .u64 (un (l.drop k) : Nat)) (fun _ i => ((intOf i) + 1).toNat)
  case atStart => exact ⟨l.length, Nat.le_refl _, rfl, by simp [un]⟩
  case round =>
    obtain ⟨k, hk, rfl, rfl⟩ := hrel
    by_cases h0 : k = 0
    · subst h0
      have hd : decide ((0 : Int) ≤ (((0 : Nat) : Int) - 1)) = false := by decide
      go_wp2
      go_ret
      exact ⟨by rw [HQ.out]; rfl, HM.out⟩
    · obtain ⟨j, rfl⟩ : ∃ j, k = j + 1 := ⟨k - 1, by omega⟩
      obtain ⟨ad, b, rfl, hbj, hb256, hc⟩ := HB.out.at_ (show j < l.length by omega)
      have hlt := un_drop_lt l j h8 HG.out
      have hun := Lib.hid (un_drop l j b hbj)
      generalize un (l.drop (j + 1)) = u at *
      have e1 : (((j + 1 : Nat) : Int) - 1) = (j : Int) := by omega
      rw [e1]
      have hj0 : (0 : Int) ≤ (j : Int) := by omega
      have hj1 : (j : Int) < (l.length : Int) := by omega
      clear hbj
      go_wp2
      refine ⟨⟨j, by omega, rfl, ?_⟩, by simp only [intOf]; omega⟩
      rw [hun.out]
      congr 1
      omega
theorem mbyte_any (w : World) (base g : Nat) (s : RD) (h : Mr w base g s) (hs : s.bs.length ≤ 9000000) :
    Calls Try.prog 106 #[.pointer (some ⟨g, 0, none⟩)] w fun e w' => e = .returned (.int .u8 s.byte) ∧ Mr w' base g (s.take 1) ∧ Only [g] w w' := by
  have hg := RD.got_lt h.good 1
  have hbyte : s.byte = (s.got 1).headD 0 := rfl
  rw [hbyte]
  go_enter Try.func106, Try.ntmps106
  go_wp2_with fail
  refine (mtake_any w base g s 1 h (by omega) (by omega) hs).mono ?_
  rintro e w1 ⟨v, rfl, h1, m1, o1⟩
  obtain ⟨A1, c1, rfl, -, -, -⟩ := h1.form
  have hby := h1.bytes hg
  have HM := Lib.hid (And.intro m1 o1)
  clear h1 m1 o1 hbyte
  cases hq : s.got 1 with
  | nil =>
    rw [hq] at hby
    have HQ := Lib.hid hq
    clear hq
    go_wp2
    go_ret
    exact ⟨by rw [HQ.out]; rfl, HM.out⟩
  | cons b l =>
    rw [hq] at hby
    obtain ⟨ad, b', rfl, hb', hb256, hc⟩ := hby.at_ (show 0 < (b :: l).length by simp)
    simp at hb'
    subst hb'
    have HQ := Lib.hid hq
    have hc0 : w1.cell? ad = some (.int .u8 b) := by
      have e : ad.add 0 = ad := by simp [Addr.add]
      rwa [e] at hc
    have hd : (((b :: l).length : Int) == 0) = false := by simp; omega
    clear hq
    go_wp2
    go_ret
    exact ⟨by rw [HQ.out]; rfl, HM.out⟩
theorem mflag_any (w : World) (base g : Nat) (s : RD) (h : Mr w base g s) (hs : s.bs.length ≤ 9000000) :
    Calls Try.prog 66 #[.pointer (some ⟨g, 0, none⟩)] w fun e w' => e = .returned (.bool s.flag) ∧ Mr w' base g s.flagTo ∧ Only [g] w w' := by
  have hby := RD.byte_lt h.good
  have hfl : ((s.byte : Int) == 1) = s.flag := by unfold RD.flag; rw [Bool.eq_iff_iff, beq_iff_eq, beq_iff_eq]; omega
  by_cases h1 : 1 < s.byte
  · have hd : decide (1 < (s.byte : Int)) = true := by simp; omega
    have hto : s.flagTo = RD.spoilt := by unfold RD.flagTo; rw [if_pos h1]
    rw [hto]
    go_enter Try.func66, Try.ntmps66
    go_wp2_with fail
    refine (mbyte_any w base g s h hs).mono ?_
    rintro e w1 ⟨rfl, m1, o1⟩
    have hsp := Lib.hid (mspoil_cells m1)
    have HO := Lib.hid o1
    obtain ⟨A, c, k1, k2, k3, k4, k5, k6⟩ := m1
    have hc0 : w1.cell? ⟨g, 0, none⟩ = some (.slice A (s.take 1).bs.length c) := by rw [k1.cell]; rfl
    have hc1 : w1.cell? ⟨g, 1, none⟩ = some (.bool (s.take 1).bad) := by rw [k1.cell]; rfl
    have hf0 : w1.frozen? ⟨g, 0, none⟩ = false := k1.frozen _
    have hf1 : w1.frozen? ⟨g, 1, none⟩ = false := k1.frozen _
    clear k1 k2 k3 k4 k6 o1
    go_wp2
    go_ret
    exact ⟨rfl, hsp.out.1, HO.out.trans hsp.out.2 (Fresh.refl _ _)⟩
  · have hd : decide (1 < (s.byte : Int)) = false := by simp; omega
    have hto : s.flagTo = s.take 1 := by unfold RD.flagTo; rw [if_neg h1]
    rw [hto]
    go_enter Try.func66, Try.ntmps66
    go_wp2_with fail
    refine (mbyte_any w base g s h hs).mono ?_
    rintro e w1 ⟨rfl, m1, o1⟩
    go_wp2
    go_ret
    exact ⟨rfl, m1, o1⟩
theorem RD.bad_num {s : RD} (h : (s.take 8).bad = true) : s.num = 0 ∧ s.take 8 = RD.spoilt := by
  have hf : s.fits 8 = false := by
    cases hf : s.fits 8 with
    | false => rfl
    | true => simp [RD.take, hf] at h
  exact ⟨by simp [RD.num, RD.got, hf, numOf, un, wrap64], by simp [RD.take, hf]⟩
theorem mbytes_any (w : World) (base g : Nat) (s : RD) (h : Mr w base g s) (hs : s.bs.length ≤ 9000000) :
    Calls Try.prog 63 #[.pointer (some ⟨g, 0, none⟩)] w fun e w' => ∃ v, e = .returned v ∧ Own w' w.heap.size v s.bytes.length s.bytes ∧ Mr w' base g s.bytesTo ∧ Only [g] w w' := by
  have hle := RD.take_le s 8
  cases hb : (s.take 8).bad with
  | true =>
    obtain ⟨e1, e2⟩ := RD.bad_num hb
    have e3 : s.bytes = [] := by simp [RD.bytes, e2, RD.got, RD.fits, RD.spoilt]
    have e4 : s.bytesTo = s.take 8 := by unfold RD.bytesTo; rw [e2]; simp [RD.take, RD.fits, RD.spoilt]
    rw [e3, e4]
    go_enter Try.func63, Try.ntmps63
    go_wp2_with fail
    refine (mnum_any w base g s h hs).mono ?_
    rintro e w1 ⟨rfl, m1, o1⟩
    have HM := Lib.hid m1
    obtain ⟨A, c, k1, -⟩ := m1
    have hc1 : w1.cell? ⟨g, 1, none⟩ = some (.bool true) := by rw [k1.cell, hb]; rfl
    clear k1
    go_wp2
    go_ret
    exact ⟨_, rfl, Own.nil _ _, HM.out, o1⟩
  | false =>
    go_enter Try.func63, Try.ntmps63
    go_wp2_with fail
    refine (mnum_any w base g s h hs).mono ?_
    rintro e w1 ⟨rfl, m1, o1⟩
    have HM := Lib.hid m1
    obtain ⟨A, c, k1, -⟩ := m1
    have hc1 : w1.cell? ⟨g, 1, none⟩ = some (.bool false) := by rw [k1.cell, hb]; rfl
    clear k1
    go_wp2_with fail
    refine (mtake_any w1 base g (s.take 8) s.num HM.out (num_range s).1 (num_range s).2 (by omega)).mono ?_
    rintro e w2 ⟨v, rfl, h2, m2, o2⟩
    go_wp2
    go_ret
    exact ⟨v, rfl, h2.weaken o1.size, m2, o1.trans o2 (Fresh.refl _ _)⟩
end Go.Proofs.Ytgddenhnpjoabaa

/-
  What the laws ask of a reader: bytes and numbers side by side, bytes written over, one read by both. Conditions: the readers lie where they are said to.
-/
namespace Go.Proofs.Ytgddenhnpjoabaa
open Go.RowKit
set_option linter.unusedSimpArgs false
set_option maxRecDepth 100000
set_option linter.unusedVariables false
theorem same_any (A A' : Option Addr) (n n' c c' B B' : Nat) (bs bs' : List Nat) (w : World) (h : Bytes w B A n bs) (h' : Bytes w B' A' n' bs') :
    Calls Try.prog 18 #[.slice A n c, .slice A' n' c'] w fun e w' => ∃ b, e = .returned (.bool b) ∧ (bs = bs' → b = true) ∧ w = w' := by
  have k1 := str_of (P := Try.prog) h c 23 9 5 Try.underlying23 Try.underlying5 Try.underlying9
  have k2 := str_of (P := Try.prog) h' c' 23 9 5 Try.underlying23 Try.underlying5 Try.underlying9
  obtain ⟨s1, hs1⟩ : ∃ s, s = strOf bs := ⟨_, rfl⟩
  obtain ⟨s2, hs2⟩ : ∃ s, s = strOf bs' := ⟨_, rfl⟩
  rw [← hs1] at k1
  rw [← hs2] at k2
  have HE : Hid (bs = bs' → s1 = s2) := Lib.hid (fun e => by rw [hs1, hs2, e])
  clear hs1 hs2 h h'
  go_enter Try.func18, Try.ntmps18
  go_wp2
  go_ret
  exact ⟨_, rfl, fun e => by simp [HE.out e], rfl⟩
/-- the bytes of a row of the call's own are written over -/
theorem over_any (w : World) (base : Nat) (v : Value) (n : Nat) (bs : List Nat) (h : Own w base v n bs) (hlt : ∀ b ∈ bs, b < 256) (hn : n ≤ 10000000) :
    Calls Try.prog 24 #[v] w fun e w' => e = .returned (.tuple #[]) ∧ Only (rowOf v) w w' := by
  obtain ⟨A, c, rfl, hnc, hcm, hA⟩ := h.form
  have H := Lib.hid (And.intro h hlt)
  clear h hlt
  go_enter Try.func24, Try.ntmps24
  go_wp2
  go_loopw [5] (fun i wr => ∃ (k : Nat) (cs : List Nat), k ≤ n ∧ i = .int .i64 k ∧ Own wr base (.slice A n c) n cs ∧ (∀ b ∈ cs, b < 256) ∧ Only (rowOf (.slice A n c)) w wr) (fun i _ => n - (intOf i).toNat)
  case atStart => exact ⟨0, bs, Nat.zero_le _, rfl, H.out.1, H.out.2, Only.refl _ _⟩
  case round =>
    obtain ⟨k, cs, hk, rfl, ho, hcs, hy⟩ := hrel
    by_cases hlt : k < n
    · obtain ⟨g, rfl, hbg, -⟩ : ∃ g, A = some ⟨g, 0, none⟩ ∧ base ≤ g ∧ True := by
        rcases hA with ⟨rfl, h0, _⟩ | ⟨g, h1, h2, _⟩
        · omega
        · exact ⟨g, h1, h2, trivial⟩
      have hkl : k < cs.length := by have := ho.len; omega
      obtain ⟨b, hb⟩ : ∃ b, cs[k]? = some b := ⟨_, List.getElem?_eq_getElem hkl⟩
      have hb256 := hcs b (List.mem_of_getElem? hb)
      have hc := ho.cell hb
      have hf := ho.frozen k
      have hx : bits .xor .u8 (b : Int) 255 = ((b ^^^ 255 : Nat) : Int) := u8_xor_nat b 255 hb256 (by omega)
      have hx256 : b ^^^ 255 < 256 := Nat.xor_lt_two_pow (n := 8) (by omega) (by omega)
      have Ho := Lib.hid ho
      have Hcs := Lib.hid hcs
      have Hy := Lib.hid hy
      have hk0 : (0 : Int) ≤ (k : Int) := by omega
      have hk1 : (k : Int) < (n : Int) := by omega
      clear ho hcs hy hb
      go_wp2
      refine ⟨⟨k + 1, cs.set k (b ^^^ 255), by omega, by go_num, Ho.out.stored k _, fun x hm => ?_, Hy.out.setCell (.inl (by simp [rowOf, Value.ownBlock])) _⟩, by simp only [intOf]; omega⟩
      rcases List.mem_or_eq_of_mem_set hm with hm | rfl
      · exact Hcs.out x hm
      · exact hx256
    · have Hy := Lib.hid hy
      clear hy ho
      go_wp2
      refine bodyPost_end (results_none rfl _ _ _) rfl ?_
      exact ⟨rfl, Hy.out⟩
/-- the state behind a reading -/
def RD.to (s : RD) (kind : Int) : RD := if kind = 0 then s.take 1 else if kind = 2 then s.flagTo else if kind = 3 then s.bytesTo else if kind = 4 then s.bytesTo else if kind = 5 then s.numsTo else s.take 8
theorem RD.got_le' (s : RD) (n : Int) : (s.got n).length ≤ s.bs.length := RD.got_le s n
theorem RD.to_le (s : RD) (kind : Int) : (s.to kind).bs.length ≤ s.bs.length := by
  have h8 := RD.take_le s 8
  have hb : s.bytesTo.bs.length ≤ s.bs.length := Nat.le_trans (RD.take_le _ _) h8
  have hrun : ∀ k, (RD.run k (s.take 8)).bs.length ≤ (s.take 8).bs.length := fun k => by
    induction k with
    | zero => exact Nat.le_refl _
    | succ k ih => exact Nat.le_trans (RD.take_le _ 8) ih
  unfold RD.to
  repeat' split
  · exact RD.take_le s 1
  · unfold RD.flagTo
    split
    · simp [RD.spoilt]
    · exact RD.take_le s 1
  · exact hb
  · exact hb
  · unfold RD.numsTo
    split
    · exact Nat.le_trans (hrun _) h8
    · simp [RD.spoilt]
  · exact h8
theorem RD.take_notbad {s : RD} {n : Int} (h : (s.take n).bad = false) : s.fits n = true := by
  cases hf : s.fits n with
  | true => rfl
  | false => simp [RD.take, hf, RD.spoilt] at h
/-- a flag that was read counts as the reader isn't bad: if it is bad there was none -/
theorem RD.flag_bad (s : RD) : (s.flag && !s.flagTo.bad) = s.flag := by
  cases hf : s.flag with
  | false => rfl
  | true =>
    have h1 : s.byte = 1 := by simpa [RD.flag] using hf
    have hto : s.flagTo = s.take 1 := by unfold RD.flagTo; rw [if_neg (by omega)]
    have hb : (s.take 1).bad = false := by
      cases hfit : s.fits 1 with
      | true => simp [RD.take, hfit]
      | false => simp [RD.byte, RD.got, hfit] at h1
    rw [hto, hb]
    rfl
/-- both readers, apart -/
structure Both (w : World) (base : Nat) (F : List Nat) (p : Option Addr) (s : RD) (g : Nat) (t : RD) : Prop where
  rd : Rd w base F p s
  mr : Mr w base g t
  apart : g ∉ F
def BTo (w : World) (base : Nat) (F : List Nat) (p : Option Addr) (s : RD) (g : Nat) (t : RD) (w' : World) : Prop := ∃ F', Both w' base F' p s g t ∧ Only (g :: F) w w' ∧ Fresh w F F'
section
variable {w w1 w' : World} {base g : Nat} {F F1 : List Nat} {p : Option Addr} {s t : RD}
theorem Both.below (h : Both w base F p s g t) (hb : Below w.heap.size w w') : Both w' base F p s g t := ⟨h.rd.below hb, h.mr.below hb, h.apart⟩
theorem Both.one (h : Both w base F p s g t) {s' : RD} (r : Rd w1 base F1 p s') (o : Only F w w1) (f : Fresh w F F1) : Both w1 base F1 p s' g t :=
  ⟨r, h.mr.of (o.below h.rd.over (Nat.le_of_lt (Nat.lt_of_le_of_lt h.mr.over h.mr.lt))) (o.block g h.mr.lt h.apart), fun hm => by
    rcases f _ hm with h' | h'
    · exact h.apart h'
    · have := h.mr.lt; omega⟩
theorem Both.two (h : Both w base F p s g t) {t' : RD} (m : Mr w1 base g t') (o : Only [g] w w1) : Both w1 base F p s g t' :=
  ⟨h.rd.of o.size (fun k hk => o.block k (h.rd.under k hk) (fun hm => h.apart (by simp at hm; subst hm; exact hk))), m, h.apart⟩
theorem BTo.stay (h : Both w base F p s g t) : BTo w base F p s g t w := ⟨F, h, Only.refl _ _, Fresh.refl _ _⟩
theorem BTo.then_ (h : BTo w base F p s g t w1) (hb : Below w1.heap.size w1 w') : BTo w base F p s g t w' := by
  obtain ⟨F2, h1, h2, h3⟩ := h
  exact ⟨F2, h1.below hb, h2.trans (Only.of_below hb (g :: F2)) (fun k hk => (List.mem_cons.1 hk).elim (fun e => .inl (by simp [e])) (fun hk => (h3 k hk).imp (List.mem_cons_of_mem _) id)), h3⟩
theorem BTo.two (h : BTo w base F p s g t w1) {t' : RD} (m : Mr w' base g t') (o : Only [g] w1 w') : BTo w base F p s g t' w' := by
  obtain ⟨F2, h1, h2, h3⟩ := h
  exact ⟨F2, h1.two m o, h2.trans o (fun k hk => .inl (by simp at hk; simp [hk])), h3⟩
theorem BTo.of_one (h : Both w base F p s g t) {s' : RD} (r : RTo w base F p s' w1) : BTo w base F p s' g t w1 := by
  obtain ⟨F1, r, o, f⟩ := r
  exact ⟨F1, h.one r o f, o.mono (fun k hk => List.mem_cons_of_mem _ hk), f⟩
theorem BTo.now (h : BTo w base F p s g t w1) : ∃ F2, Both w1 base F2 p s g t := by obtain ⟨F2, h1, _⟩ := h; exact ⟨F2, h1⟩
end
end Go.Proofs.Ytgddenhnpjoabaa

/-
  What the laws' own Copy and Kept return. Conditions: the bytes are no more than a million.
-/
namespace Go.Proofs.Ytgddenhnpjoabaa
open Go.RowKit
set_option linter.unusedSimpArgs false
set_option maxRecDepth 100000
set_option linter.unusedVariables false
set_option maxHeartbeats 400000 in
theorem copy_any (A : Option Addr) (n c : Nat) (bs : List Nat) (w : World) (hn : n ≤ 1000000) (hb : Bytes w w.heap.size A n bs) :
    Calls Try.prog 21 #[.slice A n c] w fun e w' => ∃ g cap, e = .returned (.slice (some ⟨g, 0, none⟩) n cap) ∧ n + 2 ≤ cap ∧ w.heap.size ≤ g ∧
      Own w' w.heap.size (.slice (some ⟨g, 0, none⟩) (n + 2) cap) (n + 2) (bs ++ [165, 90]) ∧ Below w.heap.size w w' := by
  go_enter Try.func21, Try.ntmps21
  go_wp2_with (first
    | (refine make_bytes _ _ rfl rfl w.heap.size _ _ _ (n + 2) rfl rfl (by omega) (by omega) (Nat.le_refl _) ?_
       intro w1 h1 g1
       have b1 : Below w.heap.size w w1 := ⟨g1.os, g1.tape, g1.output, g1.size, fun i hi => g1.block i hi (by simp)⟩)
    | (refine app_bytes (.tmp 6) (.tmp 7) rfl rfl w.heap.size _ 0 [] rfl h1 w.heap.size A n c bs rfl (hb.below b1) (by omega) b1.size ?_
       intro v2 w2 h2 g2 a2
       have b2 : Below w.heap.size w w2 := below_own b1 h1 (Nat.le_refl _) g2 b1.size)
    | (refine app_bytes (.tmp 8) (.tmp 9) rfl rfl w.heap.size _ _ _ rfl (h2.alloc _) _ _ 2 2 [165, 90] rfl (Bytes.new _ _ _ _ (by decide)) (by omega) (Nat.le_trans b2.size (by simp)) ?_
       intro v3 w3 h3 g3 a3
       have b3 : Below w.heap.size w w3 := below_own (b2.alloc b2.size _) (h2.alloc _) (Nat.le_refl _) g3 (Nat.le_trans b2.size (by simp))
       have h3' : Own w3 w.heap.size v3 (n + 2) (bs ++ [165, 90]) := by simpa using h3
       clear h3
       obtain ⟨A3, cap3, rfl, hcap, hmax, hA3⟩ := h3'.form
       unfold maxLen at hmax
       obtain ⟨g, rfl, hg1, hg2⟩ : ∃ g, A3 = some ⟨g, 0, none⟩ ∧ w.heap.size ≤ g ∧ g < w3.heap.size := hA3.resolve_left (by omega)
       clear hA3))
  go_ret
  exact ⟨g, cap3, rfl, hcap, hg1, h3', b3⟩
theorem mine_bytes {w w0 : World} {B B0 g n cap : Nat} {A : Option Addr} {bs : List Nat} (hm : Own w B (.slice (some ⟨g, 0, none⟩) (n + 2) cap) (n + 2) (bs ++ [165, 90])) (hb : Bytes w0 B0 A n bs) :
    Bytes w w.heap.size (some ⟨g, 0, none⟩) n bs := by
  have hmb := hm.bytes (fun x hx => by
    rcases List.mem_append.1 hx with hx | hx
    · exact hb.2 x hx
    · simp at hx; omega)
  refine ⟨?_, hb.2⟩
  have := hmb.1.take (k := n) (by omega)
  rwa [u8s, ← List.map_take, List.take_left' (by have := hb.len; omega)] at this
set_option maxHeartbeats 400000 in
theorem kept_any (A : Option Addr) (n c g cap B : Nat) (bs : List Nat) (w : World) (hn : n ≤ 1000000) (hcap : n + 2 ≤ cap) (hb : Bytes w B A n bs)
    (hm : Own w B (.slice (some ⟨g, 0, none⟩) (n + 2) cap) (n + 2) (bs ++ [165, 90])) :
    Calls Try.prog 23 #[.slice (some ⟨g, 0, none⟩) n cap, .slice A n c] w fun e w' => e = .returned (.bool true) ∧ Below w.heap.size w w' := by
  have hmb := hm.bytes (fun x hx => by
    rcases List.mem_append.1 hx with hx | hx
    · exact hb.2 x hx
    · simp at hx; omega)
  have hm1 : Bytes w w.heap.size (some ⟨g, 0, none⟩) n bs := ⟨by
    have := hmb.1.take (k := n) (by omega)
    rwa [u8s, ← List.map_take, List.take_left' (by have := hb.len; omega)] at this, hb.2⟩
  have k1 := str_of (P := Try.prog) hm1 cap 23 9 5 Try.underlying23 Try.underlying5 Try.underlying9
  have k2 := str_of (P := Try.prog) hb c 23 9 5 Try.underlying23 Try.underlying5 Try.underlying9
  have hl := hb.len
  have c1 : w.cell? ⟨g, n, none⟩ = some (.int .u8 165) := by
    rw [World.ownsRow.cellAt hm n (by omega)]
    simp [u8s, u8, hl]
  have c2 : w.cell? ⟨g, n + 1, none⟩ = some (.int .u8 90) := by
    rw [World.ownsRow.cellAt hm (n + 1) (by omega)]
    simp [u8s, u8, hl, show n + 1 - n = 1 by omega]
  clear hl hmb hm1 hm hb
  generalize strOf bs = str at k1 k2
  go_enter Try.func23, Try.ntmps23
  go_wp2_with fail
  all_goals go_ret
  all_goals exact ⟨rfl, Below.refl _ _⟩
/-- the bytes ahead of the marks -/
theorem mine_own {w : World} {base g n cap : Nat} {bs m : List Nat} (h : Own w base (.slice (some ⟨g, 0, none⟩) (n + 2) cap) (n + 2) (bs ++ m)) (hl : bs.length = n) : Own w base (.slice (some ⟨g, 0, none⟩) n cap) n bs := by
  refine ⟨by rw [u8s_length]; omega, ?_⟩
  rcases h.2 with ⟨h, _⟩ | ⟨g', cap', cur, hv, h1, h2, h3, h4, h5, h6⟩
  · cases h
  · injection hv with e1 e2 e3
    injection e1 with e1
    injection e1 with e1
    subst e1 e3
    refine .inr ⟨g, cap, cur, rfl, h1, h2, by omega, h4, h5, ?_⟩
    have := congrArg (List.take (n * 1)) h6
    rw [List.take_take, u8s, List.map_append, List.take_left' (by simp; omega)] at this
    rw [show min (n * 1) ((n + 2) * 1) = n * 1 by omega] at this
    exact this
end Go.Proofs.Ytgddenhnpjoabaa

/-
  What the laws of marks ask of bytes and numbers: copies, rows side by side. Conditions: the rows read as they are said to.
-/
namespace Go.Proofs.Ytgddenhnpjoabaa
open Go.RowKit
set_option linter.unusedSimpArgs false
set_option maxRecDepth 100000
set_option linter.unusedVariables false
theorem u8ofNat_inj {x y : Nat} (hx : x < 256) (hy : y < 256) (h : UInt8.ofNat x = UInt8.ofNat y) : x = y := by
  have := congrArg UInt8.toNat h
  simp at this
  omega
theorem strOf_data (bs : List Nat) : (strOf bs).data.toList = bs.map UInt8.ofNat := by
  simp [strOf, strOfNums]
theorem strOf_inj {a b : List Nat} (ha : ∀ x ∈ a, x < 256) (hb : ∀ x ∈ b, x < 256) (h : strOf a = strOf b) : a = b := by
  have h1 := congrArg (fun s : ByteArray => s.data.toList) h
  simp only [strOf_data] at h1
  have hl : a.length = b.length := by simpa using congrArg List.length h1
  apply List.ext_getElem? 
  intro i
  have h2 := congrArg (fun l => l[i]?) h1
  simp only [List.getElem?_map] at h2
  by_cases hi : i < a.length
  · rw [List.getElem?_eq_getElem hi, List.getElem?_eq_getElem (by omega)] at h2 ⊢
    simp at h2
    rw [u8ofNat_inj (ha _ (List.getElem_mem hi)) (hb _ (List.getElem_mem (by omega))) h2]
  · rw [List.getElem?_eq_none (by omega), List.getElem?_eq_none (by omega)]
/-- bytes side by side, both ways -/
theorem same_iff (A A' : Option Addr) (n n' c c' B B' : Nat) (bs bs' : List Nat) (w : World) (h : Bytes w B A n bs) (h' : Bytes w B' A' n' bs') :
    Calls Try.prog 18 #[.slice A n c, .slice A' n' c'] w fun e w' => e = .returned (.bool (bs == bs')) ∧ w = w' := by
  have k1 := str_of (P := Try.prog) h c 23 9 5 Try.underlying23 Try.underlying5 Try.underlying9
  have k2 := str_of (P := Try.prog) h' c' 23 9 5 Try.underlying23 Try.underlying5 Try.underlying9
  have he : ((strOf bs).toList == (strOf bs').toList) = (bs == bs') := by
    rw [Bool.eq_iff_iff, beq_iff_eq, beq_iff_eq, ByteArray.toList_eq, ByteArray.toList_eq]
    exact ⟨fun e => strOf_inj h.2 h'.2 (Go.WideShapes.bytes_inj e), fun e => by rw [e]⟩
  have HE := Lib.hid he
  generalize strOf bs = s1 at *
  generalize strOf bs' = s2 at *
  clear h h' he
  go_enter Try.func18, Try.ntmps18
  go_wp2
  go_ret
  exact ⟨by simp [HE.out], rfl⟩
end Go.Proofs.Ytgddenhnpjoabaa

/-
  What New, at, like, Set and Sized of marks return. Conditions: the rows read as bytes, of no more than nine million.
-/
namespace Go.Proofs.Ytgddenhnpjoabaa
open Go.RowKit
set_option linter.unusedSimpArgs false
set_option maxRecDepth 100000
set_option linter.unusedVariables false
theorem Own.of_blk {w : World} {base g n : Nat} {bs : List Nat} (h : Blk w g 5 (u8s bs).toArray) (hl : bs.length = n) (hb : base ≤ g) (hn : n ≤ 9000000) : Own w base (.slice (some ⟨g, 0, none⟩) n n) n bs :=
  ⟨by rw [u8s_length]; omega, .inr ⟨g, n, _, rfl, hb, h, Nat.le_refl _, by simp [maxLen]; omega, by simp [u8s_length, hl], by rw [List.take_of_length_le (by simp [u8s_length, hl])]⟩⟩
theorem Blk.bytes {w : World} {g n : Nat} {bs : List Nat} (h : Blk w g 5 (u8s bs).toArray) (hl : bs.length = n) (hb : ∀ b ∈ bs, b < 256) : Bytes w w.heap.size (some ⟨g, 0, none⟩) n bs :=
  ⟨⟨by rw [u8s_length]; omega, fun _ => ⟨_, rfl, h.lt, fun j u hu => by
    rw [add_zero_off, h.cell]
    simpa using hu⟩⟩, hb⟩
theorem Blk.cell8 {w : World} {g k b : Nat} {bs : List Nat} (h : Blk w g 5 (u8s bs).toArray) (hk : bs[k]? = some b) : w.cell? ⟨g, k, none⟩ = some (.int .u8 (b : Int)) := by
  rw [h.cell]
  simp [u8s, u8, hk]
theorem Blk.set8 {w : World} {g : Nat} {bs : List Nat} (h : Blk w g 5 (u8s bs).toArray) (k b : Nat) : Blk (w.setCell ⟨g, k, none⟩ (.int .u8 (b : Int))) g 5 (u8s (bs.set k b)).toArray := by
  have := h.set_ k (.int .u8 (b : Int))
  rw [List.setIfInBounds_toArray] at this
  rwa [u8s, List.map_set]
theorem noughts (k : Nat) : u8s (List.replicate k 0) = List.replicate k (Value.int .u8 0) := by simp [u8s, u8]
theorem make_marks (q : Nat) (hq : q ≤ 9000000) (w : World) : (Instr.makeSlice 33 (.int .i64 q) (.int .i64 q)).run Try.prog w = .ok (.slice (some ⟨w.heap.size, 0, none⟩) q q) (w.alloc (.cells (u8s (List.replicate q 0)).toArray 5)) := by
  obtain ⟨i0, hi0, hz0, hz1, hz2⟩ := info_parts byte_info
  have := run_make (P := Try.prog) w 33 5 i0 (.int .u8 0) Try.underlying33 hi0 hz0 .i64 .i64 q q (by omega) (by omega) (by rw [hz2]; omega) (by omega)
  rw [hz1] at this
  simp only [Int.toNat_natCast, Nat.mul_one] at this
  rw [this, noughts]
  have e : (Value.int .u8 0).cells = (List.replicate 1 (Value.int .u8 0)).toArray := rfl
  rw [e, made_same 1 q _ (by omega)]
theorem make_b (q : Nat) (hq : q ≤ 9000000) (w : World) : (Instr.makeSlice 23 (.int .i64 q) (.int .i64 q)).run Try.prog w = .ok (.slice (some ⟨w.heap.size, 0, none⟩) q q) (w.alloc (.cells (u8s (List.replicate q 0)).toArray 5)) := by
  obtain ⟨i0, hi0, hz0, hz1, hz2⟩ := info_parts byte_info
  have := run_make (P := Try.prog) w 23 5 i0 (.int .u8 0) Try.underlying23 hi0 hz0 .i64 .i64 q q (by omega) (by omega) (by rw [hz2]; omega) (by omega)
  rw [hz1] at this
  simp only [Int.toNat_natCast, Nat.mul_one] at this
  rw [this, noughts]
  have e : (Value.int .u8 0).cells = (List.replicate 1 (Value.int .u8 0)).toArray := rfl
  rw [e, made_same 1 q _ (by omega)]
theorem new_ok (k : Nat) (hk : k ≤ 256) (w : World) : Calls Try.prog 165 #[.int .i64 k] w fun e w' => e = .returned (.tuple #[.slice (some ⟨w.heap.size, 0, none⟩) k k, .nilIface]) ∧ w' = w.alloc (.cells (u8s (List.replicate k 0)).toArray 5) := by
  have hmk := make_marks k (by omega)
  have hd : decide ((256 : Int) < (k : Int)) = false := decide_eq_false (by omega)
  have hd0 : decide ((k : Int) < 0) = false := decide_eq_false (by omega)
  go_enter Try.func165, Try.ntmps165
  go_wp2
  go_ret2
  exact ⟨rfl, rfl⟩
theorem new_bad (n : Int) (hn : n < 0 ∨ 256 < n) (w : World) : Calls Try.prog 165 #[.int .i64 n] w fun e w' => e = .returned (.tuple #[.slice none 0 0, errV 1]) ∧ w = w' := by
  by_cases h0 : n < 0
  · have hd0 : decide (n < (0 : Int)) = true := decide_eq_true h0
    go_enter Try.func165, Try.ntmps165
    go_wp2
    go_ret2
    exact ⟨rfl, rfl⟩
  · have hd0 : decide (n < (0 : Int)) = false := decide_eq_false h0
    have hd1 : decide ((256 : Int) < n) = true := decide_eq_true (by omega)
    go_enter Try.func165, Try.ntmps165
    go_wp2
    go_ret2
    exact ⟨rfl, rfl⟩
theorem u8_size : (Try.prog.info? 5).map (·.size) = some 1 := by kernel_rfl
theorem splice_all {α : Type} (cs Z : List α) (h : cs.length = Z.length) : splice Z 0 cs = cs := by
  simp [splice, h]
theorem like_any (A : Option Addr) (n c : Nat) (bs : List Nat) (w : World) (hn : n ≤ 9000000) (hb : Bytes w w.heap.size A n bs) :
    Calls Try.prog 151 #[.slice A n c] w fun e w' => e = .returned (.slice (some ⟨w.heap.size, 0, none⟩) n n) ∧ Blk w' w.heap.size 5 (u8s bs).toArray ∧ Below w.heap.size w w' := by
  have hmk := make_marks n hn
  have hl := hb.len
  have HB := Lib.hid hb
  have K0 := Blk.new w 5 (u8s (List.replicate n 0)).toArray
  have B0 := below_alloc w (.cells (u8s (List.replicate n 0)).toArray 5)
  have HK := Lib.hid (And.intro K0 B0)
  clear hb K0 B0
  go_enter Try.func151, Try.ntmps151
  go_wp2_with (refine wpList_copy_splice rfl (.tmp 7) (.tmp 8) _ _ rfl 5 Try.underlying33 u8_size (some ⟨w.heap.size, 0, none⟩) A n n n c rfl rfl w.heap.size 0 (u8s (List.replicate n 0)) 5 HK.out.1 (u8s bs) (by rw [u8s_length, hl]; exact (Nat.min_self n).symm) (fun h0 => ⟨rfl, by
                 obtain ⟨ad, e, _, hc⟩ := (HB.out.below HK.out.2).1.2 (by rw [u8s_length] at h0; omega)
                 exact ⟨ad, e, hc⟩⟩) (by rw [u8s_length, u8s_length, List.length_replicate]; omega) (oneCell_u8s _) w.heap.size w HK.out.2 (Nat.le_refl _) ?_
               intro w1 h1 b1)
  go_ret
  exact ⟨rfl, by have := h1.out; rwa [splice_all _ _ (by rw [u8s_length, u8s_length, List.length_replicate]; omega)] at this, b1⟩
theorem sized_at (bs : List Nat) (k j : Nat) (h : j < k) : (sizedM bs k)[j]? = some (mk bs j) := by simp [sizedM, h]
theorem splice_sized (bs : List Nat) (k : Nat) : splice (u8s (List.replicate k 0)) 0 (u8s (bs.take k)) = u8s (sizedM bs k) := by
  apply List.ext_getElem?
  intro j
  unfold splice
  simp only [List.take_zero, List.nil_append, Nat.zero_add, u8s_length]
  by_cases hj : j < (bs.take k).length
  · rw [List.getElem?_append_left (by rw [u8s_length]; exact hj)]
    have h1 : j < k := by rw [List.length_take] at hj; omega
    have h2 : j < bs.length := by rw [List.length_take] at hj; omega
    rw [u8s, u8s, List.getElem?_map, List.getElem?_map, sized_at bs k j h1, List.getElem?_take, if_pos h1, List.getElem?_eq_getElem h2, mk_at (List.getElem?_eq_getElem h2)]
  · rw [List.getElem?_append_right (by rw [u8s_length]; omega), u8s_length, List.getElem?_drop, noughts, List.getElem?_replicate]
    rw [List.length_take] at hj ⊢
    by_cases h1 : j < k
    · rw [if_pos (by omega), u8s, List.getElem?_map, sized_at bs k j h1, mk_over (by omega)]
      rfl
    · rw [if_neg (by omega), List.getElem?_eq_none (by rw [u8s_length, sizedM_len]; omega)]
theorem sized_ok (A : Option Addr) (n c k : Nat) (bs : List Nat) (w : World) (hk : k ≤ 256) (hb : Bytes w w.heap.size A n bs) :
    Calls Try.prog 161 #[.slice A n c, .int .i64 k] w fun e w' => e = .returned (.tuple #[.slice (some ⟨w.heap.size, 0, none⟩) k k, .nilIface]) ∧ Blk w' w.heap.size 5 (u8s (sizedM bs k)).toArray ∧ Below w.heap.size w w' := by
  have hl := hb.len
  have HB := Lib.hid hb
  have K0 := Blk.new w 5 (u8s (List.replicate k 0)).toArray
  have B0 := below_alloc w (.cells (u8s (List.replicate k 0)).toArray 5)
  have HK := Lib.hid (And.intro K0 B0)
  clear hb K0 B0
  go_enter Try.func161, Try.ntmps161
  go_wp2_with fail
  refine (new_ok k hk w).mono ?_
  rintro e w' ⟨rfl, rfl⟩
  go_wp2_with (refine wpList_copy_splice rfl (.tmp 13) (.tmp 14) _ _ rfl 5 Try.underlying33 u8_size (some ⟨w.heap.size, 0, none⟩) A k k n c rfl rfl w.heap.size 0 (u8s (List.replicate k 0)) 5 HK.out.1 (u8s (bs.take k)) (by rw [u8s_length, List.length_take, hl]; exact Nat.min_comm _ _) (fun h0 => ⟨rfl, by
                 rw [u8s_length, List.length_take] at h0
                 obtain ⟨ad, e, _, hc⟩ := (HB.out.below HK.out.2).1.2 (by omega)
                 exact ⟨ad, e, fun j v hj => hc j v (by
                   rw [u8s, List.getElem?_map, List.getElem?_take] at hj
                   split at hj
                   · rw [u8s, List.getElem?_map]; exact hj
                   · cases hj)⟩⟩) (by rw [u8s_length, u8s_length, List.length_replicate, List.length_take]; omega) (oneCell_u8s _) w.heap.size w HK.out.2 (Nat.le_refl _) ?_
               intro w1 h1 b1)
  go_ret2
  exact ⟨rfl, by have := h1.out; rwa [splice_sized] at this, b1⟩
theorem sized_bad (A : Option Addr) (n c : Nat) (k : Int) (w : World) (hk : k < 0 ∨ 256 < k) :
    Calls Try.prog 161 #[.slice A n c, .int .i64 k] w fun e w' => e = .returned (.tuple #[.slice none 0 0, errV 1]) ∧ w = w' := by
  go_enter Try.func161, Try.ntmps161
  go_wp2_with fail
  refine (new_bad k hk w).mono ?_
  rintro e w' ⟨rfl, rfl⟩
  go_wp2_with (refine wpList_copy_nothing rfl (.tmp 13) (.tmp 14) _ _ rfl 5 Try.underlying33 u8_size none A 0 0 n c rfl rfl (Nat.min_zero n) ?_)
  go_ret2
  exact ⟨rfl, rfl⟩
end Go.Proofs.Ytgddenhnpjoabaa

/-
  What good, textSize and place of marks return. Conditions: the row reads as bytes, of no more than ten thousand.
-/
namespace Go.Proofs.Ytgddenhnpjoabaa
open Go.RowKit
set_option linter.unusedSimpArgs false
set_option maxRecDepth 100000
set_option linter.unusedVariables false
def okMark (b : Nat) : Bool := decide (b ≤ 3)
theorem odd_any (b : Nat) (w : World) : Calls Try.prog 163 #[.int .u8 (b : Int)] w fun e w' => e = .returned (.bool (!okMark b)) ∧ w = w' := by
  unfold okMark
  by_cases h1 : b ≤ 3
  · have hd1 : decide ((3 : Int) < (b : Int)) = false := decide_eq_false (by omega)
    have hd2 : decide (b ≤ 3) = true := decide_eq_true h1
    rw [hd2]
    go_enter Try.func163, Try.ntmps163
    go_wp2
    go_ret
    exact ⟨by trivial, rfl⟩
  · have hd1 : decide ((3 : Int) < (b : Int)) = true := decide_eq_true (by omega)
    have hd2 : decide (b ≤ 3) = false := decide_eq_false h1
    rw [hd2]
    go_enter Try.func163, Try.ntmps163
    go_wp2
    go_ret
    exact ⟨by trivial, rfl⟩
def oddV : Value := .func (.func 163) #[] #[]
set_option maxHeartbeats 2000000 in
theorem index_odd {w : World} {B n c : Nat} {A : Option Addr} {bs : List Nat} (h : Bytes w B A n bs) (hl : n ≤ 65536) :
    Calls Try.prog 171 #[.slice A n c, oddV] w fun e w' => (∃ v : Int, e = .returned (.int .i64 v) ∧ ((v = -1 ∧ bs.all okMark = true) ∨ (0 ≤ v ∧ bs.all okMark = false))) ∧ w = w' := by
  have H := Lib.hid h
  have hlen := h.len
  clear h
  go_enter Try.func171, Try.ntmps171
  unfold oddV
  go_wp2
  go_loopw [8] (fun i wr => ∃ k : Nat, k ≤ n ∧ i = .int .i64 k ∧ wr = w ∧ ∀ j b, j < k → bs[j]? = some b → okMark b = true) (fun i _ => n - (intOf i).toNat)
  case atStart => exact ⟨0, by omega, rfl, by trivial, fun j b h => by omega⟩
  case round =>
    obtain ⟨k, hk, rfl, rfl, hall⟩ := hrel
    have HA := Lib.hid hall
    clear hall
    by_cases hlt : k < n
    · obtain ⟨ad, b, rfl, hb, hb2, hc⟩ := H.out.at_ hlt
      have HB := Lib.hid hb
      have HO := Lib.hid (odd_any b wr)
      have hwk : IntKind.i64.wrap ((k : Int) + 1) = (k : Int) + 1 := by rw [IntKind.wrap_i64]; omega
      clear hb
      go_wp2_with fail
      refine HO.out.mono ?_
      rintro e w' ⟨rfl, rfl⟩
      clear HO
      by_cases hok : okMark b = true
      · have HOK := Lib.hid hok
        rw [hok]
        clear hok
        go_wp2
        go_roundw
        case rel => exact ⟨k + 1, by omega, by go_num, by trivial, fun j b' hj hb' => by
          rcases Nat.lt_succ_iff_lt_or_eq.1 hj with h | rfl
          · exact HA.out j b' h hb'
          · rw [HB.out] at hb'; injection hb' with hb'; subst hb'; exact HOK.out⟩
        case measure => simp [intOf]; omega
      · have hok' : okMark b = false := by simpa using hok
        have HOK := Lib.hid hok'
        rw [hok']
        clear hok hok'
        go_wp2
        go_ret
        refine ⟨⟨_, rfl, .inr ⟨by omega, ?_⟩⟩, rfl⟩
        rw [List.all_eq_false]
        exact ⟨b, List.mem_of_getElem? HB.out, by rw [HOK.out]; simp⟩
    · obtain rfl : k = n := by omega
      go_wp2
      go_ret
      refine ⟨⟨_, rfl, .inl ⟨rfl, ?_⟩⟩, rfl⟩
      rw [List.all_eq_true]
      intro b hb
      obtain ⟨j, hj, rfl⟩ := List.mem_iff_getElem.1 hb
      exact HA.out j _ (by omega) (List.getElem?_eq_getElem hj)
theorem contains_odd {w : World} {B n c : Nat} {A : Option Addr} {bs : List Nat} (h : Bytes w B A n bs) (hl : n ≤ 65536) :
    Calls Try.prog 162 #[.slice A n c, oddV] w fun e w' => e = .returned (.bool (!bs.all okMark)) ∧ w = w' := by
  have HI := Lib.hid (index_odd (c := c) h hl)
  clear h
  go_enter Try.func162, Try.ntmps162
  go_wp2_with fail
  refine HI.out.mono ?_
  rintro e w' ⟨⟨v, rfl, hv⟩, rfl⟩
  rcases hv with ⟨rfl, hv⟩ | ⟨hv0, hv⟩
  · have HV := Lib.hid hv
    clear hv
    go_wp2
    go_ret
    exact ⟨by rw [HV.out]; rfl, rfl⟩
  · have HV := Lib.hid hv
    have hd : decide ((0 : Int) ≤ v) = true := decide_eq_true hv0
    clear hv
    go_wp2
    go_ret
    exact ⟨by rw [HV.out]; rfl, rfl⟩
theorem all_ok (bs : List Nat) : (bs.all okMark = true) ↔ ∀ x ∈ bs, x ≤ 3 := by simp [okMark]
theorem good_any (A : Option Addr) (n c B : Nat) (bs : List Nat) (w : World) (hn : n ≤ 10000) (h : Bytes w B A n bs) :
    Calls Try.prog 138 #[.slice A n c] w fun e w' => e = .returned (.bool (decide (Good bs))) ∧ w = w' := by
  have hl := h.len
  have HC := Lib.hid (contains_odd (c := c) h (by omega))
  clear h
  unfold oddV at HC
  by_cases h1 : n ≤ 256
  · have hd : decide ((n : Int) ≤ 256) = true := decide_eq_true (by omega)
    go_enter Try.func138, Try.ntmps138
    go_wp2_with fail
    refine HC.out.mono ?_
    rintro e w' ⟨rfl, rfl⟩
    by_cases hok : bs.all okMark = true
    · have HG : Hid (decide (Good bs) = true) := Lib.hid (decide_eq_true ⟨by omega, (all_ok bs).1 hok⟩)
      rw [hok]
      clear hok
      go_wp2
      go_ret
      exact ⟨by rw [HG.out]; rfl, rfl⟩
    · have hok' : bs.all okMark = false := by simpa using hok
      have HG : Hid (decide (Good bs) = false) := Lib.hid (decide_eq_false (fun hg => hok ((all_ok bs).2 hg.2)))
      rw [hok']
      clear hok hok'
      go_wp2
      go_ret
      exact ⟨by rw [HG.out]; rfl, rfl⟩
  · have hd : decide ((n : Int) ≤ 256) = false := decide_eq_false (by omega)
    have HG : Hid (decide (Good bs) = false) := Lib.hid (decide_eq_false (fun hg => by have := hg.1; omega))
    go_enter Try.func138, Try.ntmps138
    go_wp2
    go_ret
    exact ⟨by rw [HG.out]; rfl, rfl⟩
theorem size_any (n : Nat) (w : World) (hn : n ≤ 1000000) : Calls Try.prog 139 #[.int .i64 n] w fun e w' => e = .returned (.int .i64 ((2 + (n + 3) / 4 : Nat) : Int)) ∧ w = w' := by
  go_enter Try.func139, Try.ntmps139
  go_wp2
  go_ret
  exact ⟨ret_int (by omega), rfl⟩
theorem ret_two {a b c d : Int} (h : a = c) (h' : b = d) : Ending.returned (.tuple #[.int .i64 a, .int .i64 b]) = Ending.returned (.tuple #[.int .i64 c, .int .i64 d]) := by rw [h, h']
theorem place_any (i : Nat) (w : World) (hi : i ≤ 1000000) : Calls Try.prog 140 #[.int .i64 i] w fun e w' => e = .returned (.tuple #[.int .i64 ((2 + i / 4 : Nat) : Int), .int .i64 ((2 * (i % 4) : Nat) : Int)]) ∧ w = w' := by
  have hp : Calls Try.prog 140 #[.int .i64 i] w fun e w' => e = .returned (.tuple #[.int .i64 (2 + (i : Int) / 4), .int .i64 ((i : Int) % 4 * 2)]) ∧ w = w' := by
    go_enter Try.func140, Try.ntmps140
    go_wp2
    go_ret2
    exact ⟨rfl, rfl⟩
  refine hp.mono ?_
  rintro e w' ⟨rfl, rfl⟩
  exact ⟨ret_two (by omega) (by omega), rfl⟩
end Go.Proofs.Ytgddenhnpjoabaa

/-
  What Put of marks returns. Conditions: the row reads as bytes, of no more than ten thousand.
-/
namespace Go.Proofs.Ytgddenhnpjoabaa
open Go.RowKit
set_option linter.unusedSimpArgs false
set_option maxRecDepth 100000
set_option linter.unusedVariables false
theorem put_bad (A : Option Addr) (n c B : Nat) (bs : List Nat) (w : World) (hn : n ≤ 10000) (hb : Bytes w B A n bs) (hg : ¬ Good bs) :
    Calls Try.prog 89 #[.slice A n c] w fun e w' => e = .returned (.tuple #[.slice none 0 0, errV 2]) ∧ w = w' := by
  have HG := Lib.hid (good_any A n c B bs w hn hb)
  have hd : decide (Good bs) = false := decide_eq_false hg
  rw [hd] at HG
  clear hb hd hg
  go_enter Try.func89, Try.ntmps89
  go_wp2_with fail
  refine HG.out.mono ?_
  rintro e w' ⟨rfl, rfl⟩
  go_wp2
  go_ret2
  exact ⟨rfl, rfl⟩
theorem part_zero (bs : List Nat) : part bs 0 = [bs.length % 256, bs.length / 256] ++ List.replicate ((bs.length + 3) / 4) 0 := by
  unfold part packs
  congr 1
  apply List.ext_getElem?
  intro j
  by_cases hj : j < (bs.length + 3) / 4
  · rw [List.getElem?_map, List.getElem?_range hj, List.getElem?_replicate, if_pos hj]
    simp [packB, mk]
  · rw [List.getElem?_eq_none (by simp; omega), List.getElem?_eq_none (by simp; omega)]
theorem head_set (q r L : Nat) : ((List.replicate (2 + L) 0).set 0 q).set 1 r = [q, r] ++ List.replicate L 0 := by
  rw [Nat.add_comm, List.replicate_succ, List.replicate_succ]
  rfl
set_option maxHeartbeats 2000000 in
theorem put_ok (A : Option Addr) (n c : Nat) (bs : List Nat) (w : World) (hb : Bytes w w.heap.size A n bs) (hg : Good bs) :
    Calls Try.prog 89 #[.slice A n c] w fun e w' => e = .returned (.tuple #[.slice (some ⟨w.heap.size, 0, none⟩) (2 + (n + 3) / 4) (2 + (n + 3) / 4), .nilIface]) ∧ Blk w' w.heap.size 5 (u8s (putM bs)).toArray ∧ Below w.heap.size w w' := by
  have hl := hb.len
  have hg0 := hg.1
  have hn : n ≤ 256 := by omega
  have HB := Lib.hid hb
  have HG := Lib.hid (good_any A n c w.heap.size bs w (by omega) hb)
  have hd : decide (Good bs) = true := decide_eq_true hg
  rw [hd] at HG
  obtain ⟨P, hP⟩ : ∃ P, P = 2 + (n + 3) / 4 := ⟨_, rfl⟩
  have hmk := make_b P (by omega)
  have HGd := Lib.hid hg
  have hsz := size_any n w (by omega)
  rw [← hP] at hsz ⊢
  have HP := Lib.hid hP
  have hP2 : 2 ≤ P := by omega
  have hP3 : P ≤ 1000 := by omega
  clear hP
  clear hb hd hg
  go_enter Try.func89, Try.ntmps89
  go_wp2_with fail
  refine HG.out.mono ?_
  rintro e w' ⟨rfl, rfl⟩
  clear HG
  go_wp2_with fail
  refine hsz.mono ?_
  rintro e w' ⟨rfl, rfl⟩
  clear hsz
  have c0 : (u8s (List.replicate P 0))[0]? = some (.int .u8 0) := by rw [noughts, List.getElem?_replicate, if_pos (by omega)]
  have c1 : (u8s (List.replicate P 0))[1]? = some (.int .u8 0) := by rw [noughts, List.getElem?_replicate, if_pos (by omega)]
  have hparts : ((u8s (List.replicate P 0)).set 0 (Value.int .u8 ((n : Int) % 256))).set 1 (Value.int .u8 ((n : Int) / 256)) = u8s (part bs 0) := by
    rw [part_zero, HP.out, ← head_set, hl]
    simp [u8s, u8, List.map_set]
  have HPT := Lib.hid hparts
  clear hparts
  go_wp2
  rw [HPT.out]
  generalize hg : w.heap.size = g at *
  have HK : Hid (Blk (w.alloc (.cells (u8s (part bs 0)).toArray 5)) g 5 (u8s (part bs 0)).toArray ∧ Below g w (w.alloc (.cells (u8s (part bs 0)).toArray 5))) := Lib.hid (by subst hg; exact ⟨Blk.new _ _ _, below_alloc _ _⟩)
  generalize w.alloc (.cells (u8s (part bs 0)).toArray 5) = w1 at *
  go_loopw [30] (fun i wr => ∃ k : Nat, k ≤ n ∧ i = .int .i64 k ∧ Blk wr g 5 (u8s (part bs k)).toArray ∧ Below g w wr) (fun i _ => n - (intOf i).toNat)
  case atStart => exact ⟨0, by omega, rfl, HK.out.1, HK.out.2⟩
  case round =>
    obtain ⟨k, hk, rfl, hkb, hbl⟩ := hrel
    by_cases hlt : k < n
    · obtain ⟨ad, b, rfl, hb, hb2, hc⟩ := (HB.out.below hbl).at_ hlt
      have hpl := place_any k wr (by omega)
      have hkl : 2 + k / 4 < P := by have := HP.out; omega
      have hcell := hkb.cell8 (part_at bs k (by omega))
      have hfz := hkb.frozen (2 + k / 4)
      have hmk : mk bs k = b := mk_at hb
      have hb3 : b ≤ 3 := HGd.out.2 b (List.mem_of_getElem? hb)
      have hset := part_set HGd.out.2 k (by omega)
      rw [hmk] at hset
      have HE := Lib.hid (fun z : Nat => And.intro (hkb.set8 (2 + k / 4) z) (hbl.setCell (p := ⟨g, 2 + k / 4, none⟩) (Nat.le_refl _) (.int .u8 (z : Int))))
      have HS := Lib.hid hset
      have hpt := part_lt HGd.out.2 k
      have hor := (or_add (k % 4) (by omega) _ hpt b (by omega))
      have HPL := Lib.hid hpl
      have HA := Lib.hid hpt
      generalize packB (bs.take k) (k / 4) = a at *
      obtain ⟨at_, hat⟩ : ∃ at_, at_ = 2 + k / 4 := ⟨_, rfl⟩
      obtain ⟨sh, hsh⟩ : ∃ sh, sh = 2 * (k % 4) := ⟨_, rfl⟩
      rw [← hat] at hcell hfz hkl HPL HS HE
      rw [← hsh] at HPL HS hor
      have HAT := Lib.hid hat
      have hsh2 : sh ≤ 6 := by omega
      have HSH := Lib.hid (And.intro hsh hor)
      clear hkb hbl hset hmk hpl hb hat hsh hpt hor
      go_wp2_with fail
      refine HPL.out.mono ?_
      rintro e w2 ⟨he, hw⟩
      subst he
      subst hw
      clear HPL
      have ha : a < 256 := Nat.lt_of_lt_of_le HA.out (by
        have : k % 4 < 4 := Nat.mod_lt _ (by omega)
        calc 4 ^ (k % 4) ≤ 4 ^ 3 := Nat.pow_le_pow_right (by omega) (by omega)
          _ ≤ 256 := by decide)
      have e1 : ((b : Int) * 2 ^ sh % 256) = ((b <<< sh : Nat) : Int) := by
        have h1 := HSH.out.2.2
        rw [Nat.shiftLeft_eq] at h1 ⊢
        have h2 : ((b * 2 ^ sh : Nat) : Int) = (b : Int) * 2 ^ sh := by push_cast; rfl
        rw [← h2]
        omega
      have e2 : bits .or .u8 (a : Int) ((b <<< sh : Nat) : Int) = ((a ||| b <<< sh : Nat) : Int) := u8_or_nat a (b <<< sh) ha HSH.out.2.2
      generalize hz : a ||| b <<< sh = z at *
      generalize b <<< sh = s at *
      clear ha
      go_wp2
      go_region
      go_wp2
      go_roundw
      case rel => exact ⟨k + 1, by omega, by go_num, by rw [← HS.out]; exact (HE.out z).1, ⟨(HE.out z).2.os, (HE.out z).2.tape, (HE.out z).2.output, (HE.out z).2.size, (HE.out z).2.block⟩⟩
      case measure => simp [intOf]; omega
    · obtain rfl : k = n := by omega
      have HE := Lib.hid (And.intro hkb hbl)
      clear hkb hbl
      go_wp2
      go_ret2
      subst hg
      exact ⟨rfl, by rw [← part_all, hl]; exact HE.out.1, HE.out.2⟩
end Go.Proofs.Ytgddenhnpjoabaa
