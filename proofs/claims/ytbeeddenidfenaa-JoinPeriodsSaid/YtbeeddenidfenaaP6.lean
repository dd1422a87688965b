/- The maths of stretching and transposing. -/
import Derived.Test.YtbeeddenidfenaaP5
import Derived.Test.YtbeeddenidfenaaG7
set_option linter.unusedSimpArgs false
set_option linter.unusedVariables false
namespace Go.Proofs.Ytbeeddenidfenaa
open Go.RowKit

theorem sts_get : ∀ (ps : List (List Int)) (a i : Nat), i < ps.length → (sts a ps)[i]? = some (((a + (ps.take i).flatten.length : Nat) : Int))
  | p :: ps, a, 0, _ => by simp [sts]
  | p :: ps, a, i + 1, h => by
    have := sts_get ps (a + p.length) i (by simpa using h)
    simp only [sts, List.getElem?_cons_succ, List.take_succ_cons, List.flatten_cons, List.length_append]
    rw [this]
    congr 2
    omega
theorem bldM_mark (m : Mk) (ps : List (List Int)) {i : Nat} (h : i ≤ ps.length) : (bldM m ps).marks.getD i 0 = (((headL m).length + (ps.take i).flatten.length : Nat) : Int) := by
  show (sts (headL m).length ps ++ [_]).getD i 0 = _
  rw [List.getD_eq_getElem?_getD]
  by_cases hi : i < ps.length
  · rw [List.getElem?_append_left (by rw [sts_len]; exact hi), sts_get ps _ i hi]; rfl
  · obtain rfl : i = ps.length := by omega
    rw [List.getElem?_append_right (by rw [sts_len]; exact Nat.le_refl _), sts_len, Nat.sub_self, List.take_length]; rfl
theorem bldM_mkI (m : Mk) (ps : List (List Int)) {i : Nat} (h : i ≤ ps.length) : mkI (bldM m ps) i = (headL m).length + (ps.take i).flatten.length := by
  unfold mkI; rw [bldM_mark m ps h]; omega
theorem bldM_many (m : Mk) (ps : List (List Int)) : (bldM m ps).marks.length = ps.length + 1 := by
  show (sts (headL m).length ps ++ [_]).length = _
  rw [List.length_append, sts_len]; rfl
theorem bldM_pN (m : Mk) (ps : List (List Int)) : pN (bldM m ps) = ps.length := by unfold pN; rw [bldM_many]; omega
theorem bldM_len (m : Mk) (ps : List (List Int)) : (bldM m ps).sam.length = (headL m).length + ps.flatten.length + (tailL m).length := by
  show (headL m ++ ps.flatten ++ tailL m).length = _
  rw [List.length_append, List.length_append]
theorem take_flat {ps : List (List Int)} {i : Nat} (h : i < ps.length) : (ps.take (i + 1)).flatten.length = (ps.take i).flatten.length + ps[i].length := by rw [flat_take h, List.length_append]
theorem bldM_pL (m : Mk) {ps : List (List Int)} {i : Nat} (h : i < ps.length) : pL (bldM m ps) i = ps[i].length := by
  unfold pL
  rw [bldM_mkI m ps (show i + 1 ≤ ps.length by omega), bldM_mkI m ps (show i ≤ ps.length by omega), take_flat h]
  omega
theorem flat_drop {ps : List (List Int)} {i : Nat} (h : i < ps.length) : ps.flatten.drop (ps.take i).flatten.length = ps[i] ++ (ps.drop (i + 1)).flatten := by
  have e : ps = ps.take i ++ (ps[i] :: ps.drop (i + 1)) := by rw [← List.drop_eq_getElem_cons h, List.take_append_drop]
  conv => lhs; arg 2; rw [e]
  rw [List.flatten_append, List.flatten_cons, List.drop_left]
theorem bldM_per (m : Mk) {ps : List (List Int)} {i : Nat} (h : i < ps.length) : per (bldM m ps) i = ps[i] := by
  unfold per
  rw [bldM_pL m h, bldM_mkI m ps (show i ≤ ps.length by omega)]
  show ((headL m ++ ps.flatten ++ tailL m).drop ((headL m).length + (ps.take i).flatten.length)).take ps[i].length = ps[i]
  have hl := flat_le ps i
  rw [List.append_assoc, List.drop_append, List.drop_of_length_le (by omega), List.nil_append, Nat.add_sub_cancel_left, List.drop_append_of_le_length hl, flat_drop h, List.append_assoc, List.take_left]
theorem bldM_head {m : Mk} (h : MkR m) (ps : List (List Int)) : headL (bldM m ps) = headL m := by
  show (headL m ++ ps.flatten ++ tailL m).take (mkI (bldM m ps) 0) = headL m
  rw [bldM_mkI m ps (Nat.zero_le _), List.take_zero, List.flatten_nil, List.length_nil, Nat.add_zero, List.append_assoc, List.take_left]
theorem bldM_tail {m : Mk} (h : MkR m) (ps : List (List Int)) : tailL (bldM m ps) = tailL m := by
  show (headL m ++ ps.flatten ++ tailL m).drop (mkI (bldM m ps) (pN (bldM m ps))) = tailL m
  rw [bldM_pN, bldM_mkI m ps (Nat.le_refl _), List.take_length, List.drop_append, List.drop_of_length_le (by rw [List.length_append]; exact Nat.le_refl _), List.nil_append, List.length_append, Nat.sub_self, List.drop_zero]
theorem bldM_bldM {m : Mk} (h : MkR m) (ps qs : List (List Int)) : bldM (bldM m ps) qs = bldM m qs := by
  show Mk.mk (headL (bldM m ps) ++ qs.flatten ++ tailL (bldM m ps)) _ = _
  rw [bldM_head h, bldM_tail h]; rfl
theorem len_flat {ps : List (List Int)} (h : ∀ p ∈ ps, 1 ≤ p.length) : ps.length ≤ ps.flatten.length := by
  induction ps with
  | nil => simp
  | cons p ps ih =>
    have h1 := h p (by simp)
    have h2 := ih fun q hq => h q (by simp [hq])
    rw [List.flatten_cons, List.length_append, List.length_cons]; omega
theorem bldM_right {m : Mk} (h : MkR m) {ps : List (List Int)} (h0 : 1 ≤ ps.length) (h1 : ∀ p ∈ ps, 1 ≤ p.length) (h2 : (bldM m ps).sam.length ≤ 100000) : MkR (bldM m ps) := by
  have h3 := len_flat h1
  have h4 := bldM_len m ps
  refine ⟨by rw [bldM_many]; omega, h2, by rw [bldM_many]; omega, fun i hi => ?_, fun i hi => ?_, fun i hi => ?_⟩
  · rw [bldM_many] at hi
    rw [bldM_mark m ps (by omega)]; omega
  · rw [bldM_many] at hi
    rw [bldM_mark m ps (by omega)]
    have := flat_le ps i
    omega
  · rw [bldM_many] at hi
    rw [bldM_mark m ps (by omega), bldM_mark m ps (by omega), take_flat (by omega)]
    have := h1 _ (List.getElem_mem (show i < ps.length by omega))
    omega
theorem bldM_sm {m : Mk} (hs : Sm m.sam) {ps : List (List Int)} (hp : ∀ p ∈ ps, Sm p) : Sm (bldM m ps).sam := by
  intro x hx
  have hx' : x ∈ headL m ++ ps.flatten ++ tailL m := hx
  rw [List.mem_append, List.mem_append, List.mem_flatten] at hx'
  rcases hx' with (h | ⟨p, hp1, h⟩) | h
  · exact hs x (List.mem_of_mem_take h)
  · exact hp p hp1 x h
  · exact hs x (List.mem_of_mem_drop h)
theorem per_sm {m : Mk} (hs : Sm m.sam) (i : Nat) : Sm (per m i) := fun x hx => hs x (List.mem_of_mem_drop (List.mem_of_mem_take hx))
theorem perL_sm {p : List Int} (hp : Sm p) (L : Nat) : Sm (perL p L) := by
  intro x hx
  unfold perL at hx
  rw [List.mem_map] at hx
  obtain ⟨j, -, rfl⟩ := hx
  unfold hold
  by_cases h : min j (p.length - 1) < p.length
  · rw [gI h]; exact hp _ (List.getElem_mem h)
  · rw [List.getD_eq_getElem?_getD, List.getElem?_eq_none (by omega)]; simp
theorem perL_id {p : List Int} (h : 1 ≤ p.length) : perL p p.length = p := by
  apply List.ext_getElem
  · rw [perL_len]
  · intro i h1 h2
    have : (perL p p.length)[i] = (perL p p.length).getD i 0 := (gI h1).symm
    rw [this, perL_get p p.length h2]
    unfold hold
    rw [show min i (p.length - 1) = i by omega, gI h2]

/-- The list of what is said with the counts of stretching. -/
theorem rep_str (P : Nat → List Int) (A B : Nat) (hB : 1 ≤ B) (hA : A ≤ 16 * B) : ∀ k, ((List.range k).flatMap fun i => List.replicate (fst' A B (i + 1) - fst' A B i) (P i)) = (List.range (fst' A B k)).map fun j => P (j * B / A)
  | 0 => by
    have : fst' A B 0 = 0 := by unfold fst'; rw [Nat.zero_mul, Nat.zero_add]; exact Nat.div_eq_of_lt (by omega)
    rw [this]; rfl
  | k + 1 => by
    have hm := (fst_mono A B k hB hA).1
    obtain ⟨d, hd⟩ : ∃ d, d = fst' A B (k + 1) - fst' A B k := ⟨_, rfl⟩
    have e : fst' A B (k + 1) = fst' A B k + d := by omega
    rw [List.range_succ, List.flatMap_append, rep_str P A B hB hA k, List.flatMap_cons, List.flatMap_nil, List.append_nil, ← hd, e, List.range_add, List.map_append, List.map_map]
    congr 1
    rw [← List.length_range (n := d), ← List.map_const', List.length_range]
    apply List.map_congr_left
    intro t ht
    have ht := List.mem_range.1 ht
    show P k = P ((fst' A B k + t) * B / A)
    congr 1
    have hAp : 0 < A := by
      rcases Nat.eq_zero_or_pos A with h0 | h0
      · subst h0
        have z : ∀ i, fst' 0 B i = 0 := fun i => by unfold fst'; rw [Nat.mul_zero, Nat.zero_add]; exact Nat.div_eq_of_lt (by omega)
        rw [z, z] at hd; omega
      · exact h0
    refine (Nat.div_eq_of_lt_le ?_ ?_).symm
    · have h1 : k * A ≤ fst' A B k * B := by
        unfold fst'
        have := Nat.div_add_mod (k * A + B - 1) B
        have h3 := Nat.mod_lt (k * A + B - 1) (show 0 < B by omega)
        rw [Nat.mul_comm B] at this
        omega
      have h2 : fst' A B k * B ≤ (fst' A B k + t) * B := Nat.mul_le_mul_right _ (by omega)
      omega
    · have h1 : fst' A B k + t + 1 ≤ fst' A B (k + 1) := by omega
      have h2 : (fst' A B k + t + 1) * B ≤ fst' A B (k + 1) * B := Nat.mul_le_mul_right _ h1
      have h3 : fst' A B (k + 1) * B ≤ (k + 1) * A + B - 1 := by unfold fst'; exact Nat.div_mul_le_self _ _
      rw [Nat.succ_mul (fst' A B k + t)] at h2
      have h4 : 0 < (k + 1) * A := Nat.mul_pos (by omega) hAp
      omega
theorem fst_top (A B : Nat) (hB : 1 ≤ B) : fst' A B B = A := by
  unfold fst'
  rw [show B * A + B - 1 = B - 1 + A * B by rw [Nat.mul_comm]; omega, Nat.add_mul_div_right _ _ (by omega), Nat.div_eq_of_lt (by omega), Nat.zero_add]
theorem flatMap_congr' {α β : Type} {l : List α} {f g : α → List β} (h : ∀ a ∈ l, f a = g a) : l.flatMap f = l.flatMap g := by
  induction l with
  | nil => rfl
  | cons a l ih =>
    rw [List.flatMap_cons, List.flatMap_cons, h a (by simp), ih fun b hb => h b (by simp [hb])]
theorem said_str {m : Mk} (h : MkR m) {num den : Int} (hr : ratOk num den = true) : said m (gsStr m num den) = strL m (strA m num den) := by
  have hA := strA_in h hr
  have hp := h.pN_in
  unfold said saidTo
  rw [flatMap_congr' (g := fun i => List.replicate (fst' (strA m num den) (pN m) (i + 1) - fst' (strA m num den) (pN m) i) (per m i)) (fun i hi => by
    have hi := List.mem_range.1 hi
    have e1 : fL m (gsStr m num den) i = pL m i := by unfold fL fin gsStr; simp [gStr]
    have e2 : fT m (gsStr m num den) i = fst' (strA m num den) (pN m) (i + 1) - fst' (strA m num den) (pN m) i := by
      unfold fT fin gsStr; simp [gStr]
    rw [e1, e2, ← per_len h hi, perL_id (by rw [per_len h hi]; exact (h.pL_in hi).1)])]
  rw [rep_str (per m) _ _ hp.1 hA.2.2, fst_top _ _ hp.1]
  rfl
theorem flatMap_one {α β : Type} (f : α → β) (l : List α) : l.flatMap (fun i => [f i]) = l.map f := by
  induction l with
  | nil => rfl
  | cons a l ih => rw [List.flatMap_cons, ih]; rfl
theorem said_tra (m : Mk) (num den : Nat) : said m (gsTra (num : Int) (den : Int)) = traL m num den := by
  unfold said saidTo traL
  rw [flatMap_congr' (g := fun i => [perL (per m i) (traN m num den i)]) (fun i _ => by
    have e1 : fL m (gsTra (num : Int) (den : Int)) i = traN m num den i := by unfold fL fin gsTra traN; simp [gTra]
    have e2 : fT m (gsTra (num : Int) (den : Int)) i = 1 := by unfold fT fin gsTra; simp [gTra]
    rw [e1, e2]; rfl)]
  exact flatMap_one _ _
theorem traL_get (m : Mk) (num den : Nat) {i : Nat} (h : i < (traL m num den).length) : (traL m num den)[i] = perL (per m i) (traN m num den i) := by simp [traL]
theorem said_sing {m : Mk} (h : MkR m) {num den : Nat} (hr : ratOk (num : Int) (den : Int) = true) : said m (gsSing m (num : Int) (den : Int)) = strL (bldM m (traL m num den)) (strA (bldM m (traL m num den)) num den) := by
  have hA := strA_in h hr
  have hp := h.pN_in
  have hpn : pN (bldM m (traL m num den)) = pN m := by rw [bldM_pN, traL_len]
  have hsa : strA (bldM m (traL m num den)) num den = strA m num den := by unfold strA; rw [hpn]
  unfold said saidTo
  rw [flatMap_congr' (g := fun i => List.replicate (fst' (strA m num den) (pN m) (i + 1) - fst' (strA m num den) (pN m) i) (perL (per m i) (traN m num den i))) (fun i hi => by
    have e1 : fL m (gsSing m (num : Int) (den : Int)) i = traN m num den i := by unfold fL fin gsSing traN; simp [gTra, gStr]
    have e2 : fT m (gsSing m (num : Int) (den : Int)) i = fst' (strA m num den) (pN m) (i + 1) - fst' (strA m num den) (pN m) i := by
      unfold fT fin gsSing; simp [gStr]
    rw [e1, e2])]
  rw [rep_str (fun i => perL (per m i) (traN m num den i)) _ _ hp.1 hA.2.2, fst_top _ _ hp.1, hsa]
  unfold strL
  rw [hpn]
  apply List.map_congr_left
  intro j hj
  have hj := List.mem_range.1 hj
  have hi : j * pN m / strA m num den < (traL m num den).length := by
    rw [traL_len]
    refine Nat.div_lt_of_lt_mul ?_
    exact (Nat.mul_lt_mul_right (by omega)).2 hj
  rw [bldM_per m hi, traL_get m num den hi]
theorem nr_small {q a b : Int} (hq : 1 ≤ q) (ha : 0 ≤ a) (hb : 0 < b) (h : a ≤ b) : nr (q * a) b ≤ q := by
  have h0 : 0 ≤ q * a := Int.mul_nonneg (by omega) ha
  have h1 : q * a ≤ q * b := Int.mul_le_mul_of_nonneg_left h (by omega)
  unfold nr
  rw [rnd_pos h0]
  have h2 : (2 * (q * a) + b) / (2 * b) < q + 1 := Int.ediv_lt_of_lt_mul (by omega) (by
    have e : (q + 1) * (2 * b) = 2 * (q * b) + 2 * b := by rw [Int.add_mul, Int.one_mul, Int.mul_left_comm]
    rw [e]; omega)
  omega
theorem sumL_bound {m : Mk} (h : MkR m) {gs : List Eff} (hc : ∀ i, i < pN m → fL m gs i * fT m gs i ≤ 16 * pL m i) : ∀ k, k ≤ pN m → sumL m gs k + 16 * mkI m 0 ≤ 16 * mkI m k
  | 0, _ => by simp [sumL]
  | k + 1, hk => by
    have h1 := sumL_bound h hc k (by omega)
    have h2 := hc k (by omega)
    have h3 := h.lt (i := k) (by omega)
    have h4 : pL m k = mkI m (k + 1) - mkI m k := rfl
    simp only [sumL]
    omega
theorem fst_one {A B i : Nat} (hB : 1 ≤ B) (hA : A ≤ B) : fst' A B (i + 1) ≤ fst' A B i + 1 := by
  unfold fst'
  rw [← Nat.add_div_right _ (by omega : 0 < B)]
  exact Nat.div_le_div_right (by rw [Nat.succ_mul]; omega)
theorem str_count {m : Mk} (h : MkR m) {num den : Int} (hr : ratOk num den = true) {i : Nat} (hi : i < pN m) : fL m (gsStr m num den) i * fT m (gsStr m num den) i ≤ 16 * pL m i := by
  have e1 : fL m (gsStr m num den) i = pL m i := by unfold fL fin gsStr; simp [gStr]
  have e2 : fT m (gsStr m num den) i = fst' (strA m num den) (pN m) (i + 1) - fst' (strA m num den) (pN m) i := by unfold fT fin gsStr; simp [gStr]
  have h3 := fst_mono (strA m num den) (pN m) i h.pN_in.1 (strA_in h hr).2.2
  rw [e1, e2, Nat.mul_comm]
  exact Nat.mul_le_mul_right _ (by omega)
theorem tra_count {m : Mk} (h : MkR m) {num den : Nat} (hr : ratOk (num : Int) (den : Int) = true) {i : Nat} (hi : i < pN m) : fL m (gsTra (num : Int) (den : Int)) i * fT m (gsTra (num : Int) (den : Int)) i ≤ 16 * pL m i := by
  have e1 : fL m (gsTra (num : Int) (den : Int)) i = traN m num den i := by unfold fL fin gsTra traN; simp [gTra]
  have e2 : fT m (gsTra (num : Int) (den : Int)) i = 1 := by unfold fT fin gsTra; simp [gTra]
  rw [e1, e2, Nat.mul_one]
  exact (traN_in h hr hi).2.2
theorem sing_count {m : Mk} (h : MkR m) {num den : Nat} (hr : ratOk (num : Int) (den : Int) = true) {i : Nat} (hi : i < pN m) : fL m (gsSing m (num : Int) (den : Int)) i * fT m (gsSing m (num : Int) (den : Int)) i ≤ 16 * pL m i := by
  have e1 : fL m (gsSing m (num : Int) (den : Int)) i = traN m num den i := by unfold fL fin gsSing traN; simp [gTra, gStr]
  have e2 : fT m (gsSing m (num : Int) (den : Int)) i = fst' (strA m num den) (pN m) (i + 1) - fst' (strA m num den) (pN m) i := by unfold fT fin gsSing; simp [gStr]
  have hri := ratOk_in hr
  have ht := traN_in h hr hi
  have hl := h.pL_in hi
  rw [e1, e2]
  by_cases hd : num ≤ den
  · have hA : strA m num den ≤ pN m := by
      have h1 := nr_small (q := (pN m : Int)) (a := (num : Int)) (b := (den : Int)) (by have := h.pN_in; omega) (by omega) (by omega) (by omega)
      unfold strA; omega
    have h3 := fst_one (i := i) h.pN_in.1 hA
    have h4 : traN m num den i * (fst' (strA m num den) (pN m) (i + 1) - fst' (strA m num den) (pN m) i) ≤ traN m num den i * 1 := Nat.mul_le_mul_left _ (by omega)
    omega
  · have h1 := nr_small (q := (pL m i : Int)) (a := (den : Int)) (b := (num : Int)) (by omega) (by omega) (by omega) (by omega)
    have h2 : traN m num den i ≤ pL m i := by unfold traN; omega
    have h3 := fst_mono (strA m num den) (pN m) i h.pN_in.1 (strA_in h hr).2.2
    rw [Nat.mul_comm]
    exact Nat.mul_le_mul (by omega) h2
/-- A short wave's result is never too long. -/
theorem reb_short {m : Mk} (h : MkR m) (hs : m.sam.length ≤ 400) {gs : List Eff} (hc : ∀ i, i < pN m → fL m gs i * fT m gs i ≤ 16 * pL m i) : rebLen m gs ≤ 7000 ∧ sumL m gs (pN m) ≤ 6400 := by
  have h1 := sumL_bound h hc (pN m) (Nat.le_refl _)
  have h2 := h.le (i := pN m) (by have := h.pN_in; omega)
  have h3 := h.le (i := 0) (by have := h.pN_in; omega)
  unfold rebLen
  omega
theorem head_len {m : Mk} (h : MkR m) : (headL m).length = mkI m 0 := by
  have h3 := h.le (i := 0) (by have := h.pN_in; omega)
  unfold headL; rw [List.length_take]; omega
theorem tail_len {m : Mk} (h : MkR m) : (tailL m).length = m.sam.length - mkI m (pN m) := by unfold tailL; rw [List.length_drop]
theorem bld_len {m : Mk} (h : MkR m) (gs : List Eff) : (bldM m (said m gs)).sam.length = rebLen m gs := by
  rw [bldM_len, head_len h, tail_len h]
  have := saidTo_flat m gs (pN m)
  show mkI m 0 + (saidTo m gs (pN m)).flatten.length + _ = _
  rw [this]; unfold rebLen; omega
theorem said_mem {m : Mk} (h : MkR m) {gs : List Eff} (hf : FinOk m gs) {p : List Int} (hp : p ∈ said m gs) : ∃ i, i < pN m ∧ p = perL (per m i) (fL m gs i) := by
  unfold said saidTo at hp
  rw [List.mem_flatMap] at hp
  obtain ⟨i, hi, hp⟩ := hp
  exact ⟨i, List.mem_range.1 hi, (List.mem_replicate.1 hp).2⟩
theorem mk_fine {m : Mk} (h : MkR m) (hs : Sm m.sam) : mkErr true m = 0 := by
  unfold mkErr
  rw [chk_one, if_neg (by have := h.len; omega), if_pos]
  refine ⟨?_, ?_⟩
  · rw [Bool.true_and]
    unfold marksOk
    rw [Bool.and_eq_true]
    refine ⟨?_, by simpa using h.two⟩
    have key : ∀ k, k ≤ m.marks.length → ∀ f : Int, f ≤ (if k < m.marks.length then (mkI m k : Int) else f) → mOk (m.marks.drop k) f m.sam.length = true := by
      intro k
      induction hd : m.marks.length - k generalizing k with
      | zero => intro hk f _; rw [List.drop_of_length_le (by omega)]; rfl
      | succ d ih =>
        intro hk f hf
        have hlt : k < m.marks.length := by omega
        rw [if_pos hlt] at hf
        rw [mOk_drop hlt, h.get hlt, ih (k + 1) (by omega) (by omega), Bool.and_true]
        · simp only [betw, Bool.and_eq_true, decide_eq_true_eq]
          exact ⟨hf, by have := h.le hlt; omega⟩
        · split
          · have := h.lt (i := k) (by unfold pN; omega); omega
          · exact Int.le_refl _
    have := key 0 (Nat.zero_le _) 0 (by split; omega; exact Int.le_refl _)
    rwa [List.drop_zero] at this
  · unfold waveOk
    rw [List.all_eq_true]
    intro x hx
    have := hs x hx
    simp only [samOk, betw, Bool.and_eq_true, decide_eq_true_eq]
    omega
theorem said_right {m : Mk} (h : MkR m) (hs : Sm m.sam) {gs : List Eff} (hf : FinOk m gs) (h0 : 1 ≤ (said m gs).length) (hl : rebLen m gs ≤ 100000) : MkR (bldM m (said m gs)) ∧ Sm (bldM m (said m gs)).sam := by
  refine ⟨bldM_right h h0 (fun p hp => ?_) (by rw [bld_len h]; exact hl), bldM_sm hs fun p hp => ?_⟩
  · obtain ⟨i, hi, rfl⟩ := said_mem h hf hp
    rw [perL_len]; exact (hf.at hi).2.2.1
  · obtain ⟨i, hi, rfl⟩ := said_mem h hf hp
    exact perL_sm (per_sm hs i) _
end Go.Proofs.Ytbeeddenidfenaa
