/- The smaller asks of a right ask are right, and smaller. -/
import Derived.Test.YtfcopnlpcbbocaaP1
namespace Go.Proofs.Ytfcopnlpcbbocaa

theorem pce_div {S : Sys} {r : Rul} {p : Pce} (h : pceOk S r p = true) (hk : p.kind ≠ 1) : r.div ≠ 0 := by
  intro h0
  simp [pceOk, h0, hk] at h
theorem pce_term {S : Sys} {r : Rul} {p : Pce} (h : pceOk S r p = true) (hk : p.kind = 1 ∨ p.kind = 2 ∨ p.kind = 5) : 0 ≤ p.term ∧ p.term < S.terms.length := by
  unfold pceOk at h
  split at h
  · cases h
  split at h
  · simp only [exst, Bool.and_eq_true, decide_eq_true_eq] at h; exact h.1.1
  split at h
  · omega
  split at h
  · simp only [exst, Bool.and_eq_true, decide_eq_true_eq] at h; exact h.1.1
  · cases h
theorem pce_set {S : Sys} {r : Rul} {p : Pce} (h : pceOk S r p = true) (hk : p.kind = 3 ∨ p.kind = 4) : 0 ≤ p.set ∧ p.set < S.sets.length := by
  unfold pceOk at h
  split at h
  · cases h
  split at h
  · omega
  · simp only [exst, Bool.and_eq_true, decide_eq_true_eq] at h; exact h.1.1
theorem pce_kind {S : Sys} {r : Rul} {p : Pce} (h : pceOk S r p = true) : p.kind = 1 ∨ p.kind = 2 ∨ p.kind = 3 ∨ p.kind = 4 ∨ p.kind = 5 := by
  unfold pceOk at h
  split at h
  · cases h
  split at h
  · omega
  split at h
  · omega
  split at h
  · omega
  · cases h
theorem Right.gen {S : Sys} (h : Right S) {i : Int} (h0 : 0 ≤ i) (h1 : i < S.terms.length) : 0 ≤ (Ytfcopnlpcbbocaa.termOf S i).gen ∧ (Ytfcopnlpcbbocaa.termOf S i).gen < S.genders := by
  have hlt : i.toNat < S.terms.length := by omega
  have e : Ytfcopnlpcbbocaa.termOf S i = S.terms[i.toNat] := by simp [Ytfcopnlpcbbocaa.termOf, List.getElem?_eq_getElem hlt]
  have := h.ok
  simp only [sysOk, Bool.and_eq_true] at this
  have hh := (List.all_eq_true.1 this.1.1.2) _ (List.getElem_mem hlt)
  simp only [termOk, exst, Bool.and_eq_true, decide_eq_true_eq] at hh
  rw [e]; exact hh.1.1
theorem quo_lt {S : Sys} {r : Rul} {n : Int} (hr : RuleRight S r n) (hd : r.div ≠ 0) : 0 ≤ quo r n ∧ quo r n < n ∧ 0 ≤ rst r n ∧ rst r n < n ∧ (quo r n + 1) * (rst r n + 1) ≤ n + 1 := by
  have h2 : 2 ≤ r.div ∧ r.div ≤ r.base := hr.div.resolve_left hd
  have hb := hr.base
  simp only [quo, rst, if_neg hd]
  have e := Int.mul_ediv_add_emod n r.div
  have m0 := Int.emod_nonneg n hd
  have m1 := Int.emod_lt_of_pos n (show 0 < r.div by omega)
  have q1 : 1 ≤ n / r.div := (Int.le_ediv_iff_mul_le (by omega)).2 (by omega)
  generalize n / r.div = q at *
  generalize n % r.div = s at *
  refine ⟨by omega, ?_, m0, by omega, ?_⟩
  · have : 2 * q ≤ r.div * q := Int.mul_le_mul_of_nonneg_right h2.1 (by omega)
    omega
  · have h3 : (s + 1) * q ≤ r.div * q := Int.mul_le_mul_of_nonneg_right (by omega) (by omega)
    have h4 : (q + 1) * (s + 1) = (s + 1) * q + (s + 1) := by rw [Int.mul_comm, Int.mul_add, Int.mul_one]
    omega
theorem askRst_right {S : Sys} (h : Right S) {a : Ask} (ha : AskRight S a) {p : Pce} (hp : p ∈ (ruleOf S a).pieces) (hk : p.kind = 4) : AskRight S (askRst S a p.set) ∧ (askRst S a p.set).num < a.num := by
  obtain ⟨-, -, -, -, -, -, hr⟩ := rule_right h ha
  have hd := pce_div (hr.piece p hp) (by omega)
  have hq := quo_lt hr hd
  have := ha.top
  exact ⟨⟨hq.2.2.1, by simp only [askRst]; omega, pce_set (hr.piece p hp) (.inr hk), ha.gen, ha.kas⟩, hq.2.2.2.1⟩
theorem countedGen_right {S : Sys} (h : Right S) {r : Rul} {g : Int} (hg : 0 ≤ g ∧ g < S.genders) (l : List Pce) (hl : ∀ p ∈ l, pceOk S r p = true) : 0 ≤ countedGen S l g ∧ countedGen S l g < S.genders := by
  unfold countedGen
  split
  · rename_i p hp
    have h2 := List.find?_some hp
    have hm := List.mem_of_find?_eq_some hp
    have ht := pce_term (hl p hm) (by simp at h2; omega)
    exact h.gen ht.1 ht.2
  · exact hg
theorem askQuo_right {S : Sys} (h : Right S) {a : Ask} (ha : AskRight S a) {p : Pce} (hp : p ∈ (ruleOf S a).pieces) (hk : p.kind = 3) : AskRight S (askQuo S a p.set) ∧ (askQuo S a p.set).num < a.num := by
  obtain ⟨-, -, -, -, -, -, hr⟩ := rule_right h ha
  have hd := pce_div (hr.piece p hp) (by omega)
  have hq := quo_lt hr hd
  have := ha.top
  exact ⟨⟨hq.1, by simp only [askQuo]; omega, pce_set (hr.piece p hp) (.inl hk), countedGen_right h ha.gen _ hr.piece, ha.kas⟩, hq.2.1⟩
end Go.Proofs.Ytfcopnlpcbbocaa
