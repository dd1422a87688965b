/- Contracts: feeds that are right. -/
import Derived.Test.YtbmbcbknoflpgaaG0
import Derived.Lib.MinMax
set_option linter.unusedSimpArgs false
set_option linter.unusedVariables false
namespace Go.Proofs.Ytbmbcbknoflpgaa
open Go.RowKit

structure Fd where
  sec : Int
  amt : Int
def FdAt (w : World) (b o : Nat) (f : Fd) : Prop := IntAt w b o f.sec ∧ IntAt w b (o + 1) f.amt
theorem FdAt.stable : Stable FdAt := fun _ _ _ _ _ hB ⟨h1, h2⟩ => ⟨keep hB h1, keep hB h2⟩
def amOk (n : Int) : Bool := betw n (-500) 500
set_option maxHeartbeats 400000 in
theorem feedRight_any (n : Int) (w : World) : Calls Try.prog 91 #[.int .i64 n] w fun e w' => e = .returned (.bool (amOk n)) ∧ w = w' := by
  go_enter Try.func91, Try.ntmps91
  go_wp2_with (go_at_call 71; refine (between_any _ _ _ _).mono ?_; rintro e w' ⟨rfl, rfl⟩)
  go_ret
  exact ⟨rfl, rfl⟩
set_option maxHeartbeats 400000 in
theorem size_any (n : Int) (w : World) (hn : -9000000000000000000 ≤ n ∧ n ≤ 9000000000000000000) : Calls Try.prog 92 #[.int .i64 n] w fun e w' => e = .returned (.int .i64 (n.natAbs : Nat)) ∧ w = w' := by
  have h1 : IntKind.i64.wrap (-n) = -n := IntWalk.i64_in _ (by omega)
  have h2 : max n (-n) = (n.natAbs : Int) := by omega
  go_enter Try.func92, Try.ntmps92
  go_wp2
  go_ret
  exact ⟨rfl, rfl⟩
/-- Feeds in range, of sections apart; their sum. -/
def fdGood (n : Int) (l : List Fd) : Prop := (∀ f ∈ l, 0 ≤ f.sec ∧ f.sec < n ∧ -500 ≤ f.amt ∧ f.amt ≤ 500) ∧ (l.map Fd.sec).Nodup
instance (n : Int) (l : List Fd) : Decidable (fdGood n l) := by unfold fdGood; exact inferInstance
def fdSum (l : List Fd) : Nat := (l.map fun f => f.amt.natAbs).sum
def fdOk (n : Int) (l : List Fd) : Bool := decide (fdGood n l) && decide (fdSum l ≤ 500)
theorem fdSum_snoc (l : List Fd) (f : Fd) : fdSum (l ++ [f]) = fdSum l + f.amt.natAbs := by simp [fdSum]
theorem fdGood_snoc (n : Int) (l : List Fd) (f : Fd) : fdGood n (l ++ [f]) ↔ fdGood n l ∧ (0 ≤ f.sec ∧ f.sec < n ∧ -500 ≤ f.amt ∧ f.amt ≤ 500) ∧ f.sec ∉ l.map Fd.sec := by
  unfold fdGood
  rw [List.map_append, List.nodup_append]
  simp only [List.mem_append, List.map_cons, List.map_nil, List.mem_singleton]
  constructor
  · rintro ⟨h1, h2, -, h3⟩
    exact ⟨⟨fun g hg => h1 g (.inl hg), h2⟩, h1 f (.inr rfl), fun hm => h3 _ hm _ rfl rfl⟩
  · rintro ⟨⟨h1, h2⟩, h3, h4⟩
    refine ⟨?_, h2, by simp, ?_⟩
    · rintro g (hg | rfl)
      · exact h1 g hg
      · exact h3
    · rintro a ha b rfl rfl
      exact h4 ha
theorem fdGood_take {n : Int} {l : List Fd} (h : fdGood n l) (k : Nat) : fdGood n (l.take k) :=
  ⟨fun f hf => h.1 f (List.mem_of_mem_take hf), by rw [List.map_take]; exact h.2.sublist (List.take_sublist _ _)⟩
theorem fdSum_le {n : Int} {l : List Fd} (h : fdGood n l) : fdSum l ≤ 500 * l.length := by
  have h1 := h.1
  clear h
  induction l with
  | nil => simp [fdSum]
  | cons x l ih =>
    have hx := h1 x (by simp)
    have := ih (fun f hf => h1 f (by simp [hf]))
    unfold fdSum at this ⊢
    simp only [List.map_cons, List.sum_cons, List.length_cons]
    omega
theorem nodup_len : ∀ (n : Nat) (l : List Int), l.Nodup → (∀ x ∈ l, 0 ≤ x ∧ x < n) → l.length ≤ n := by
  intro n
  induction n with
  | zero =>
    intro l _ h
    cases l with
    | nil => simp
    | cons x l => have := h x (by simp); omega
  | succ n ih =>
    intro l hd h
    by_cases hm : (n : Int) ∈ l
    · have h1 := ih (l.erase (n : Int)) (hd.erase _) (fun x hx => by
        have h2 := (List.Nodup.mem_erase_iff hd).1 hx
        have h3 := h x h2.2
        have h4 := h2.1
        omega)
      rw [List.length_erase_of_mem hm] at h1
      omega
    · have h1 := ih l hd (fun x hx => by
        have h3 := h x hx
        have h4 : x ≠ (n : Int) := fun e => hm (e ▸ hx)
        omega)
      omega
theorem fd_len {n : Nat} {l : List Fd} (h : fdGood n l) : l.length ≤ n := by
  have := nodup_len n (l.map Fd.sec) h.2 (fun x hx => by
    obtain ⟨f, hf, rfl⟩ := List.mem_map.1 hx
    have := h.1 f hf
    omega)
  rwa [List.length_map] at this
set_option maxRecDepth 10000 in
set_option maxHeartbeats 2000000 in
theorem feedsRight_any (l : List Fd) (n : Nat) (v : Value) (w : World) (hv : SliceV w v 2 FdAt l) (hn : n ≤ 24) :
    Calls Try.prog 67 #[v, .int .i64 n] w fun e w' => e = .returned (.bool (fdOk n l)) ∧ Below w.heap.size w w' := by
  have HV := Lib.hid hv
  obtain ⟨a, c, rfl, hl, -⟩ := hv
  unfold most at hl
  have HNN := Lib.hid hn
  obtain ⟨ok, hok⟩ : ∃ b, fdOk n l = b := ⟨_, rfl⟩
  rw [hok]
  have HOK := Lib.hid hok
  clear hok hn
  have u0 : IntKind.i64.wrap ((n : Int) - 1) = (n : Int) - 1 := IntWalk.i64_in _ (by have := HNN.out; omega)
  go_enter Try.func67, Try.ntmps67
  go_wp2_with fail
  have HR0 : Hid (World.rowIs (w.alloc (.cells (Array.replicate 24 (.bool false)) 139)) w.heap.size 139 24 (fun j => .bool (decide ((j : Int) ∈ (l.take 0).map Fd.sec)))) := Lib.hid ⟨_, World.alloc_heap_new w _, by simp, fun i hi => by simp [hi]⟩
  have HB0 := Lib.hid (bAlloc (Below.refl w.heap.size w) (.cells (Array.replicate 24 (.bool false)) 139))
  have hrep : Array.replicate 24 (Value.bool false) = #[.bool false, .bool false, .bool false, .bool false, .bool false, .bool false, .bool false, .bool false, .bool false, .bool false, .bool false, .bool false, .bool false, .bool false, .bool false, .bool false, .bool false, .bool false, .bool false, .bool false, .bool false, .bool false, .bool false, .bool false] := rfl
  rw [hrep] at HR0 HB0
  clear hrep
  generalize World.alloc w _ = W1 at *
  go_loopw [6, 11] (fun s i wr => ∃ k : Nat, k ≤ l.length ∧ i = .int .i64 k ∧ s = .int .i64 (fdSum (l.take k) : Nat) ∧ Hid (fdGood n (l.take k)) ∧ Hid (World.rowIs wr w.heap.size 139 24 (fun j => .bool (decide ((j : Int) ∈ (l.take k).map Fd.sec)))) ∧ Hid (Below w.heap.size w wr)) (fun _ i _ => l.length - (intOf i).toNat)
  case atStart => exact ⟨0, Nat.zero_le _, rfl, rfl, Lib.hid (by simp [fdGood]), HR0, HB0⟩
  case round =>
    obtain ⟨k, hk, rfl, rfl, HG, HR, HB⟩ := hrel
    by_cases hlt : k < l.length
    · obtain ⟨b, o, rfl, hf⟩ := (HV.out.keep FdAt.stable HB.out).at (by intro h; simp [h] at hlt)
      obtain ⟨k0, k1⟩ := hf k hlt
      have HTK : Hid (l.take (k + 1) = l.take k ++ [l[k]]) := Lib.hid (take_succ l k hlt)
      have hkk : (k : Int) < (l.length : Int) := by omega
      have HBAD : Hid (¬ fdGood n (l.take (k + 1)) → false = ok) := Lib.hid (fun h => by
        rw [← HOK.out]
        unfold fdOk
        rw [decide_eq_false (fun hg => h (fdGood_take hg (k + 1)))]
        rfl)
      have hkl := fd_len HG.out
      have hsl := fdSum_le HG.out
      have hnn := HNN.out
      clear hf
      generalize l[k] = x at *
      obtain ⟨q, m⟩ := x
      unfold IntAt at k0 k1
      simp only at k0 k1
      have hkb := cell_lt k0
      have HSN := Lib.hid (fdGood_snoc n (l.take k) ⟨q, m⟩)
      rw [List.length_take_of_le hk] at hkl hsl
      have HRG := Lib.hid (HR.out.alloc (.cells #[.int .i64 q, .int .i64 m] 59))
      have H1 := Lib.hid (between_any q 0 ((n : Int) - 1))
      have H2 := Lib.hid (feedRight_any m)
      have hgl := HR.out.lt
      cases h1 : betw q 0 ((n : Int) - 1)
      · rw [h1] at H1
        have HE : Hid (false = ok) := Lib.hid (HBAD.out (fun hg => by
          rw [HTK.out, HSN.out] at hg
          have : betw q 0 ((n : Int) - 1) = true := betw_iff.2 (by have := hg.2.1; simp only at this; omega)
          rw [h1] at this
          cases this))
        clear h1
        go_wp2_with (first
          | (go_at_call 71; with_reducible refine Calls.mono (H1.out _) ?_; rintro e w1 ⟨rfl, rfl⟩)
          | (go_at_call 91; with_reducible refine Calls.mono (H2.out _) ?_; rintro e w1 ⟨rfl, rfl⟩))
        go_ret
        exact ⟨by rw [← HE.out]; first | rfl | (simp; done), bAlloc HB.out _⟩
      · rw [h1] at H1
        rw [betw_iff] at h1
        obtain ⟨p, rfl⟩ : ∃ p : Nat, q = p := ⟨q.toNat, by omega⟩
        have hp24 : (p : Int) < 24 := by omega
        have c0 := HRG.out.cell (i := p) (by omega)
        have hrgl := HRG.out.lt
        by_cases hd : (p : Int) ∈ (l.take k).map Fd.sec
        · rw [decide_eq_true hd] at c0
          have HE : Hid (false = ok) := Lib.hid (HBAD.out (fun hg => by
            rw [HTK.out, HSN.out] at hg
            exact hg.2.2 hd))
          clear h1 hd
          go_wp2_with (first
            | (go_at_call 71; with_reducible refine Calls.mono (H1.out _) ?_; rintro e w1 ⟨rfl, rfl⟩)
            | (go_at_call 91; with_reducible refine Calls.mono (H2.out _) ?_; rintro e w1 ⟨rfl, rfl⟩))
          go_ret
          exact ⟨by rw [← HE.out]; first | rfl | (simp; done), bAlloc HB.out _⟩
        · rw [decide_eq_false hd] at c0
          have HD := Lib.hid hd
          clear hd
          cases h2 : amOk m
          · rw [h2] at H2
            have HE : Hid (false = ok) := Lib.hid (HBAD.out (fun hg => by
              rw [HTK.out, HSN.out] at hg
              have : amOk m = true := betw_iff.2 (by have := hg.2.1; simp only at this; omega)
              rw [h2] at this
              cases this))
            clear h2
            go_wp2_with (first
              | (go_at_call 71; with_reducible refine Calls.mono (H1.out _) ?_; rintro e w1 ⟨rfl, rfl⟩)
              | (go_at_call 91; with_reducible refine Calls.mono (H2.out _) ?_; rintro e w1 ⟨rfl, rfl⟩))
            go_ret
            exact ⟨by rw [← HE.out]; first | rfl | (simp; done), bAlloc HB.out _⟩
          · rw [h2] at H2
            unfold amOk at h2
            rw [betw_iff] at h2
            have HG2 : Hid (fdGood n (l.take (k + 1))) := Lib.hid (by
              rw [HTK.out, HSN.out]
              exact ⟨HG.out, ⟨by simp only; omega, by simp only; omega, by simp only; omega, by simp only; omega⟩, HD.out⟩)
            have HS2 : Hid (fdSum (l.take (k + 1)) = fdSum (l.take k) + m.natAbs) := Lib.hid (by rw [HTK.out, fdSum_snoc])
            have HZ := Lib.hid (fun W => size_any m W (by omega))
            have z0 := HRG.out.frozen p
            generalize fdSum (l.take k) = s at *
            have hmb : m.natAbs ≤ 500 := by omega
            generalize m.natAbs = ma at *
            have u1 : IntKind.i64.wrap ((s : Int) + (ma : Int)) = (s : Int) + (ma : Int) := IntWalk.i64_in _ (by omega)
            have HR2 := Lib.hid ((HR.out.set p (.bool true)).alloc (.cells #[.int .i64 (p : Int), .int .i64 m] 59))
            have HB2 := Lib.hid (bAlloc (HB.out.setCell (p := ⟨w.heap.size, p, none⟩) (Nat.le_refl _) (.bool true)) (.cells #[.int .i64 (p : Int), .int .i64 m] 59))
            have HR3 : Hid (World.rowIs (World.alloc (World.setCell wr ⟨w.heap.size, p, none⟩ (.bool true)) (.cells #[.int .i64 (p : Int), .int .i64 m] 59)) w.heap.size 139 24 (fun j => .bool (decide ((j : Int) ∈ (l.take (k + 1)).map Fd.sec)))) := Lib.hid (HR2.out.congr fun j _ => by
              rw [HTK.out]
              by_cases hj : j = p
              · subst hj; simp
              · have hj2 : ¬ (j : Int) = (p : Int) := by omega
                rw [if_neg hj]
                simp [hj2])
            clear h1 h2 HR2
            go_wp2_with (first
              | (go_at_call 71; with_reducible refine Calls.mono (H1.out _) ?_; rintro e w1 ⟨rfl, rfl⟩)
              | (go_at_call 91; with_reducible refine Calls.mono (H2.out _) ?_; rintro e w1 ⟨rfl, rfl⟩)
              | (go_at_call 92; with_reducible refine Calls.mono (HZ.out _) ?_; rintro e w1 ⟨rfl, rfl⟩))
            go_roundw
            case rel => exact ⟨k + 1, by omega, by go_num, by rw [HS2.out]; go_num, HG2, HR3, HB2⟩
            case measure => simp [intOf]; omega
    · obtain rfl : k = l.length := by omega
      have hg := HG.out
      rw [List.take_length] at hg ⊢
      have hok : decide (fdSum l ≤ 500) = ok := by rw [← HOK.out]; unfold fdOk; rw [decide_eq_true hg]; rfl
      have HK2 := Lib.hid hok
      generalize fdSum l = s at *
      by_cases h5 : (s : Int) ≤ 500
      · have HE : Hid (true = ok) := Lib.hid (by rw [← HK2.out]; simp; omega)
        clear hok hg
        go_wp2_with fail
        go_ret
        exact ⟨by rw [← HE.out]; first | rfl | (simp; done), HB.out⟩
      · have HE : Hid (false = ok) := Lib.hid (by rw [← HK2.out]; simp; omega)
        clear hok hg
        go_wp2_with fail
        go_ret
        exact ⟨by rw [← HE.out]; first | rfl | (simp; omega), HB.out⟩
end Go.Proofs.Ytbmbcbknoflpgaa
