/-
  What the calls of a writer, nil or not, do. Conditions: the sizes.
-/
import Derived.Test.YtldnghmgdmjljaaWire
import Derived.Test.YtldnghmgdmjljaaAgg
import Derived.Test.YtldnghmgdmjljaaRegL
import Derived.Lib.ConvBytes
namespace Go.Proofs.Ytldnghmgdmjljaa
open Go.RowKit
set_option linter.unusedSimpArgs false
set_option maxRecDepth 100000
set_option linter.unusedVariables false
/-- a writer, nil or of the call's own -/
def Wr (w : World) (base : Nat) (F : List Nat) (p : Option Addr) (bs : List Nat) : Prop := (p = none ∧ F = [] ∧ bs = []) ∨ ∃ g, p = some ⟨g, 0, none⟩ ∧ WrAt w base F g bs
def plus (p : Option Addr) (bs news : List Nat) : List Nat := if p.isNone then [] else bs ++ news
def WTo (w : World) (base : Nat) (F : List Nat) (p : Option Addr) (bs : List Nat) (w' : World) : Prop := ∃ F', Wr w' base F' p bs ∧ Only F w w' ∧ Fresh w F F'
section
variable {w w' w1 : World} {base : Nat} {F : List Nat} {p : Option Addr} {bs news : List Nat}
theorem plus_plus (p : Option Addr) (bs a b : List Nat) : plus p (plus p bs a) b = plus p bs (a ++ b) := by
  cases p <;> simp [plus]
theorem plus_len (p : Option Addr) (bs a : List Nat) : (plus p bs a).length ≤ bs.length + a.length := by
  cases p <;> simp [plus]
theorem Wr.under (h : Wr w base F p bs) : Under w F := by
  rcases h with ⟨_, rfl, _⟩ | ⟨g, _, h⟩
  · exact fun k hk => by cases hk
  · exact h.under
theorem Wr.over (h : Wr w base F p bs) : Over base F := by
  rcases h with ⟨_, rfl, _⟩ | ⟨g, _, h⟩
  · exact fun k hk => by cases hk
  · exact h.over
theorem Wr.of (h : Wr w base F p bs) (hk : ∀ k, k ∈ F → w'.heap[k]? = w.heap[k]?) : Wr w' base F p bs := by
  rcases h with h | ⟨g, hp, h⟩
  · exact .inl h
  · exact .inr ⟨g, hp, h.of hk⟩
theorem Wr.below (h : Wr w base F p bs) (hb : Below w.heap.size w w') : Wr w' base F p bs := h.of fun k hk => hb.block k (h.under k hk)
theorem Wr.plus_nil (h : Wr w base F p bs) : plus p bs [] = bs := by
  rcases h with ⟨rfl, _, rfl⟩ | ⟨g, rfl, h⟩
  · rfl
  · simp [plus]
theorem WTo.after {F1 : List Nat} (ho : Only F w w1) (hf : Fresh w F F1) (h : WTo w1 base F1 p bs w') : WTo w base F p bs w' := by
  obtain ⟨F2, h1, h2, h3⟩ := h
  exact ⟨F2, h1, ho.trans h2 hf, hf.trans h3 ho.size⟩
theorem WTo.since (hb : Below w.heap.size w w1) (h : WTo w1 base F p bs w') : WTo w base F p bs w' := h.after (Only.of_below hb F) (Fresh.refl _ _)
end
theorem put_w (w : World) (base : Nat) (F : List Nat) (p : Option Addr) (bs news : List Nat) (B : Nat) (A : Option Addr) (n c : Nat) (h : Wr w base F p bs) (hb : Bytes w B A n news) (hl : bs.length + n ≤ 10000000) (hB : base ≤ w.heap.size) :
    Calls Try.prog 70 #[.pointer p, .slice A n c] w fun e w' => e = .returned (.tuple #[]) ∧ WTo w base F p (plus p bs news) w' := by
  rcases h with ⟨rfl, rfl, rfl⟩ | ⟨g, rfl, h⟩
  · exact (put_nil _ w).mono fun e w' ⟨he, hw⟩ => ⟨he, [], .inl ⟨rfl, rfl, rfl⟩, by rw [← hw]; exact Only.refl _ _, Fresh.refl _ _⟩
  · exact (put_any w base g F bs news B A n c h hb hl hB).mono fun e w' ⟨he, F', h1, h2, h3⟩ => ⟨he, F', .inr ⟨g, rfl, h1⟩, h2, h3⟩
theorem eight_size : (Try.prog.info? 111).map (·.size) = some 8 := by kernel_rfl
theorem wnum_any (w : World) (base : Nat) (F : List Nat) (p : Option Addr) (bs : List Nat) (n : Int) (h : Wr w base F p bs) (hl : bs.length ≤ 9000000) (hB : base ≤ w.heap.size) :
    Calls Try.prog 29 #[.pointer p, .int .i64 n] w fun e w' => e = .returned (.tuple #[]) ∧ WTo w base F p (plus p bs (numB n)) w' := by
  have hz := eight_zero
  have hi : (Try.prog.info? 111).map (·.size) = some (u8s (numB n)).length := by rw [u8s_length, numB_len]; exact eight_size
  go_enter Try.func29, Try.ntmps29
  go_wp2_with fail
  refine (packed_any n w).mono ?_
  rintro e w1 ⟨rfl, b1⟩
  go_wp2_with (first | (refine wpList_store_newN rfl 111 (.tmp 4) (.tmp 6) rfl w1.heap.size rfl (u8s (numB n)) _ rfl rfl hi (by rw [u8s_length, numB_len]; rfl) (oneCell_u8s _) ?_))
  have B1 : Below w.heap.size w (w1.alloc (.cells (u8s (numB n)).toArray 111)) := b1.alloc b1.size _
  have hb8 : Bytes (w1.alloc (.cells (u8s (numB n)).toArray 111)) (w1.heap.size + 1) (some ⟨w1.heap.size, 0, none⟩) 8 (numB n) := by
    have := Bytes.new w1 (numB n) 111 (0, 0) (numB_lt n)
    rwa [numB_len] at this
  refine (put_w _ base F p bs (numB n) _ _ 8 8 (h.below B1) hb8 (by omega) (Nat.le_trans hB B1.size)).mono ?_
  rintro e w2 ⟨rfl, h2⟩
  go_wp2
  refine bodyPost_end (results_none rfl _ _ _) rfl ?_
  exact ⟨rfl, h2.since B1⟩
theorem wflag_any (w : World) (base : Nat) (F : List Nat) (p : Option Addr) (bs : List Nat) (f : Bool) (h : Wr w base F p bs) (hl : bs.length ≤ 9000000) (hB : base ≤ w.heap.size) :
    Calls Try.prog 73 #[.pointer p, .bool f] w fun e w' => e = .returned (.tuple #[]) ∧ WTo w base F p (plus p bs [if f then 1 else 0]) w' := by
  cases f with
  | true =>
    go_enter Try.func73, Try.ntmps73
    go_wp2_with fail
    have B1 := below_alloc w (.cells (u8s [1]).toArray 5)
    refine (put_w _ base F p bs [1] _ _ 1 1 (h.below B1) (Bytes.new w [1] 5 (0, 0) (by simp)) (by omega) (Nat.le_trans hB B1.size)).mono ?_
    rintro e w2 ⟨rfl, h2⟩
    go_wp2
    refine bodyPost_end (results_none rfl _ _ _) rfl ?_
    exact ⟨rfl, h2.since B1⟩
  | false =>
    go_enter Try.func73, Try.ntmps73
    go_wp2_with fail
    have B1 := below_alloc w (.cells (u8s [0]).toArray 5)
    refine (put_w _ base F p bs [0] _ _ 1 1 (h.below B1) (Bytes.new w [0] 5 (0, 0) (by simp)) (by omega) (Nat.le_trans hB B1.size)).mono ?_
    rintro e w2 ⟨rfl, h2⟩
    go_wp2
    refine bodyPost_end (results_none rfl _ _ _) rfl ?_
    exact ⟨rfl, h2.since B1⟩
theorem Bytes.only {w w' : World} {B n : Nat} {A : Option Addr} {bs F : List Nat} (h : Bytes w B A n bs) (ho : Only F w w') (ha : ∀ a, A = some a → 0 < n → a.block ∉ F) : Bytes w' B A n bs :=
  ⟨⟨h.1.1, fun hn => by
    obtain ⟨ad, e, hB, hc⟩ := h.1.2 hn
    exact ⟨ad, e, hB, fun j u hu => (ho.cell (World.block_lt_of_cell? w _ (hc j u hu)) (by rw [block_of_add]; exact ha ad e hn)).trans (hc j u hu)⟩⟩, h.2⟩
theorem strOf_size (bs : List Nat) : (strOf bs).size = bs.length := by simp [strOf, strOfNums_size]
/-- a string as new bytes -/
theorem conv_str (w : World) (bs : List Nat) (hb : ∀ b ∈ bs, b < 256) : ∃ cap w', (convert 9 23 (.string (strOf bs))).run Try.prog w = .ok (.slice (some ⟨w.heap.size, 0, none⟩) bs.length cap) w' ∧ Below w.heap.size w w' ∧ Bytes w' (w.heap.size + 1) (some ⟨w.heap.size, 0, none⟩) bs.length bs := by
  have h := Lib.run_convert_string_bytes (P := Try.prog) w 9 23 5 (strOf bs) Try.underlying9 Try.underlying23 Try.underlying5
  rw [strOf_size] at h
  refine ⟨_, _, h, ⟨rfl, rfl, rfl, by rw [Lib.bytesWorld_size]; omega, fun i hi => Lib.bytesWorld_at_old _ _ _ _ hi⟩, ⟨⟨by simp [u8s], fun hn => ⟨_, rfl, Nat.lt_succ_self _, fun j u hu => ?_⟩⟩, hb⟩⟩
  have hj : j < bs.length := by
    rcases Nat.lt_or_ge j bs.length with h' | h'
    · exact h'
    · rw [List.getElem?_eq_none (by rw [u8s_length]; exact h')] at hu; cases hu
  rw [add_zero_off, Lib.bytesWorld_cell _ _ _ _ (by rw [strOf_size]; exact hj), ← hu]
  have hbj := hb _ (List.getElem_mem hj)
  simp [strOf, strOfNums_data, u8s, u8, hj]
  omega
theorem wpList_conv {ops : Array Oper} {rest : List Oper} {o : Oper} {a : Act} {w : World} {Q : Exit → Act → World → Prop} (hg : o.guard = none) (x : Operand) (ho : o.op = .convert 9 23 x) (bs : List Nat) (hx : a.eval x = .string (strOf bs)) (hb : ∀ b ∈ bs, b < 256)
    (h : ∀ cap w', Below w.heap.size w w' → Bytes w' (w.heap.size + 1) (some ⟨w.heap.size, 0, none⟩) bs.length bs → wpList Try.prog ops Q rest (a.put o.dst (.slice (some ⟨w.heap.size, 0, none⟩) bs.length cap)) w') : wpList Try.prog ops Q (o :: rest) a w := by
  obtain ⟨cap, w', hr, h1, h2⟩ := conv_str w bs hb
  refine wpList_plain hg fun _ hK => wp_ran (w' := w') ?_ (hK _ _ (h cap w' h1 h2))
  simp [execOp, ho, hx, hr, Result.andThen]
theorem counted_bytes (w : World) (base : Nat) (F : List Nat) (p : Option Addr) (bs news : List Nat) (B : Nat) (A : Option Addr) (n c : Nat) (h : Wr w base F p bs) (hb : Bytes w B A n news) (hlt : ∀ a, A = some a → 0 < n → a.block ∉ F) (hl : bs.length + n ≤ 8000000) (hB : base ≤ w.heap.size) :
    Calls Try.prog 96 #[.pointer p, .slice A n c] w fun e w' => e = .returned (.tuple #[]) ∧ WTo w base F p (plus p bs (numB n ++ news)) w' := by
  go_enter Try.func96, Try.ntmps96
  go_wp2_with fail
  refine (wnum_any w base F p bs n h (by omega) hB).mono ?_
  rintro e w1 ⟨rfl, F1, h1, o1, f1⟩
  go_wp2_with fail
  have := plus_len p bs (numB n)
  rw [numB_len] at this
  have hb1 := hb.only o1 hlt
  refine (put_w w1 base F1 p (plus p bs (numB n)) news B A n c h1 hb1 (by omega) (Nat.le_trans hB o1.size)).mono ?_
  rintro e w2 ⟨rfl, h2⟩
  rw [plus_plus] at h2
  go_wp2
  refine bodyPost_end (results_none rfl _ _ _) rfl ?_
  exact ⟨rfl, h2.after o1 f1⟩
theorem counted_str (w : World) (base : Nat) (F : List Nat) (p : Option Addr) (bs news : List Nat) (h : Wr w base F p bs) (hb : ∀ b ∈ news, b < 256) (hl : bs.length + news.length ≤ 8000000) (hB : base ≤ w.heap.size) :
    Calls Try.prog 92 #[.pointer p, .string (strOf news)] w fun e w' => e = .returned (.tuple #[]) ∧ WTo w base F p (plus p bs (numB news.length ++ news)) w' := by
  have hs := strOf_size news
  go_enter Try.func92, Try.ntmps92
  go_wp2_with fail
  refine (wnum_any w base F p bs news.length h (by omega) hB).mono ?_
  rintro e w1 ⟨rfl, F1, h1, o1, f1⟩
  go_wp2_with (refine wpList_conv rfl (.tmp 9) rfl news rfl hb ?_
               intro cap wc bc hbc)
  have := plus_len p bs (numB news.length)
  rw [numB_len] at this
  refine (put_w wc base F1 p (plus p bs (numB news.length)) news _ _ _ cap (h1.below bc) hbc (by omega) (Nat.le_trans hB (Nat.le_trans o1.size bc.size))).mono ?_
  rintro e w2 ⟨rfl, h2⟩
  rw [plus_plus] at h2
  go_wp2
  refine bodyPost_end (results_none rfl _ _ _) rfl ?_
  exact ⟨rfl, (h2.since bc).after o1 f1⟩
/-- how many bytes, and they -/
theorem wbytes_any (w : World) (base : Nat) (F : List Nat) (p : Option Addr) (bs news : List Nat) (B : Nat) (A : Option Addr) (n c : Nat) (h : Wr w base F p bs) (hb : Bytes w B A n news) (hlt : ∀ a, A = some a → 0 < n → a.block ∉ F) (hl : bs.length + n ≤ 8000000) (hB : base ≤ w.heap.size) :
    Calls Try.prog 75 #[.pointer p, .slice A n c] w fun e w' => e = .returned (.tuple #[]) ∧ WTo w base F p (plus p bs (numB n ++ news)) w' := by
  go_enter Try.func75, Try.ntmps75
  go_wp2_with fail
  refine (counted_bytes w base F p bs news B A n c h hb hlt hl hB).mono ?_
  rintro e w2 ⟨rfl, h2⟩
  go_wp2
  refine bodyPost_end (results_none rfl _ _ _) rfl ?_
  exact ⟨rfl, h2⟩
theorem wtext_any (w : World) (base : Nat) (F : List Nat) (p : Option Addr) (bs news : List Nat) (h : Wr w base F p bs) (hb : ∀ b ∈ news, b < 256) (hl : bs.length + news.length ≤ 8000000) (hB : base ≤ w.heap.size) :
    Calls Try.prog 71 #[.pointer p, .string (strOf news)] w fun e w' => e = .returned (.tuple #[]) ∧ WTo w base F p (plus p bs (numB news.length ++ news)) w' := by
  go_enter Try.func71, Try.ntmps71
  go_wp2_with fail
  refine (counted_str w base F p bs news h hb hl hB).mono ?_
  rintro e w2 ⟨rfl, h2⟩
  go_wp2
  refine bodyPost_end (results_none rfl _ _ _) rfl ?_
  exact ⟨rfl, h2⟩
/-- numbers as cells -/
def i64s (l : List Int) : List Value := l.map (.int .i64)
theorem i64s_length (l : List Int) : (i64s l).length = l.length := by simp [i64s]
def Ints (w : World) (B : Nat) (A : Option Addr) (n : Nat) (l : List Int) : Prop := Reads w B 1 A n (i64s l)
theorem Ints.len {w : World} {B n : Nat} {A : Option Addr} {l : List Int} (h : Ints w B A n l) : l.length = n := by have := h.1; rw [i64s_length] at this; omega
theorem Ints.only {w w' : World} {B n : Nat} {A : Option Addr} {l : List Int} {F : List Nat} (h : Ints w B A n l) (ho : Only F w w') (ha : ∀ a, A = some a → 0 < n → a.block ∉ F) : Ints w' B A n l :=
  ⟨h.1, fun hn => by
    obtain ⟨ad, e, hB, hc⟩ := h.2 hn
    exact ⟨ad, e, hB, fun j u hu => (ho.cell (World.block_lt_of_cell? w _ (hc j u hu)) (by rw [block_of_add]; exact ha ad e hn)).trans (hc j u hu)⟩⟩
theorem Ints.at_ {w : World} {B n k : Nat} {A : Option Addr} {l : List Int} (h : Ints w B A n l) (hk : k < n) : ∃ ad x, A = some ad ∧ l[k]? = some x ∧ w.cell? (ad.add k) = some (.int .i64 x) := by
  obtain ⟨ad, u, e, hb, hx, hc⟩ := Reads.at_ h hk
  have hl : k < l.length := by have := h.len; omega
  refine ⟨ad, l[k], e, List.getElem?_eq_getElem hl, ?_⟩
  rw [hc, ← hx]
  simp [i64s, hl]
def numsB (l : List Int) : List Nat := numB l.length ++ l.flatMap numB
theorem numsB_len (l : List Int) : (numsB l).length = 8 + 8 * l.length := by
  have : (l.flatMap numB).length = 8 * l.length := by
    induction l with
    | nil => rfl
    | cons x l ih => rw [List.flatMap_cons, List.length_append, ih, numB_len, List.length_cons]; omega
  rw [numsB, List.length_append, numB_len, this]
theorem out_any (w : World) (base : Nat) (F : List Nat) (p : Option Addr) (bs : List Nat) (h : Wr w base F p bs) (hl : bs.length ≤ 9000000) :
    Calls Try.prog 33 #[.pointer p] w fun e w' => ∃ v, e = .returned v ∧ Own w' w.heap.size v bs.length bs ∧ Below w.heap.size w w' := by
  rcases h with ⟨rfl, rfl, rfl⟩ | ⟨g, rfl, v, rfl, h1, h2, h3, h4⟩
  · go_enter Try.func33, Try.ntmps33
    go_wp2
    go_ret
    exact ⟨_, rfl, Own.nil _ _, Below.refl _ _⟩
  · obtain ⟨A1, c1, rfl, -, -, -⟩ := h2.form
    have hc : w.cell? ⟨g, 0, none⟩ = some (.slice A1 bs.length c1) := by rw [h1.cell]; rfl
    go_enter Try.func33, Try.ntmps33
    go_wp2_with fail
    refine (clone_any A1 bs.length c1 bs w w.heap.size (by omega) (h2.bytes h4)).mono ?_
    rintro e w' ⟨v, rfl, h5, h6⟩
    go_wp2
    go_ret
    exact ⟨v, rfl, h5, h6⟩
end Go.Proofs.Ytldnghmgdmjljaa
