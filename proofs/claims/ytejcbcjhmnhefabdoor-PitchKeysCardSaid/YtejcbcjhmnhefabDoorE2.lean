/- Contracts: the loops of a curve. -/
import Derived.Test.YtejcbcjhmnhefabDoorE1
set_option linter.unusedSimpArgs false
set_option linter.unusedVariables false
namespace Go.Proofs.YtejcbcjhmnhefabDoor
open Go.RowKit

set_option maxRecDepth 20000 in
set_option maxHeartbeats 8000000 in
theorem curve_any (n : Nat) (base : Int) (l : List Cmd) (v : Value) (w : World) (hn : n ≤ 4000) (hb0 : -100000 ≤ base ∧ base ≤ 100000) (hl : l.length ≤ 200) (hok : ∀ c ∈ l, cmdOk c = true) (hv : SliceV w v 3 CmdAt l) :
    Calls Tryd.prog 20 #[.int .i64 n, .int .i64 base, v] w fun e w' => (∃ g, e = .returned (.slice (some ⟨g, 0, none⟩) n n) ∧ w'.rowIs g 3 n (fun t => .int .i64 (curveAt base l l.length t))) ∧ Below w.heap.size w w' := by
  have HV := Lib.hid hv
  have HOK := Lib.hid hok
  obtain ⟨a, c, rfl, -, -⟩ := hv
  have HN := Lib.hid (bAlloc (Below.refl w.heap.size w) (.cells #[.int .i64 base] 3))
  have HRP := Lib.hid (repeat_any base n w.heap.size 0 1 _ hn (show (w.alloc (.cells #[.int .i64 base] 3)).cell? ⟨w.heap.size, 0, none⟩ = some (.int .i64 base) from cell_new rfl))
  clear hok
  go_enter Tryd.func20, Tryd.ntmps20
  go_wp2_with (go_at_call 36; refine HRP.out.mono ?_; rintro e w1 ⟨⟨g, rfl, hg, hrow⟩, hb⟩; have HB := Lib.hid (bThen HN.out hb); have HROW := Lib.hid hrow; clear hb hrow)
  have hg2 : w.heap.size ≤ g := by simp at hg; omega
  clear hg
  go_loopw [17] (fun i wr => ∃ k : Nat, k ≤ l.length ∧ i = .int .i64 k ∧ Hid (wr.rowIs g 3 n (fun t => .int .i64 (curveAt base l k t))) ∧ Hid (Below w.heap.size w wr)) (fun i _ => l.length - (intOf i).toNat)
  case atStart => exact ⟨0, Nat.zero_le _, rfl, Lib.hid (HROW.out.congr fun t _ => by simp [curveAt]), HB⟩
  case round =>
    obtain ⟨k, hk, rfl, HROW, HB⟩ := hrel
    by_cases hlt : k < l.length
    · obtain ⟨b, o, rfl, hf⟩ := HV.out.at (by intro h; simp [h] at hlt)
      obtain ⟨k0, k1, vx, k2, hs⟩ := hf k hlt
      replace k0 := keep HB.out k0
      replace k1 := keep HB.out k1
      replace k2 := keep HB.out k2
      obtain ⟨sa, sc, rfl, -⟩ := id hs
      have hkb := cell_lt k0
      have HXOK := Lib.hid (HOK.out _ (List.getElem_mem hlt))
      have HC : ∀ t : Nat, Hid (curveAt base l (k + 1) t = curveAt base l k t + cmdVal l[k] t) := fun t => Lib.hid (curveAt_succ base l k t hlt)
      have HIN : ∀ t : Nat, t ≤ 4000 → Hid (-(100000 + 2000000000000000 * (k : Int)) ≤ curveAt base l k t ∧ curveAt base l k t ≤ 100000 + 2000000000000000 * (k : Int)) := fun t ht => Lib.hid (curveAt_in base l hb0 HOK.out t ht k hk)
      have HVS := Lib.hid hs
      have HLT := Lib.hid hlt
      clear hf hs
      generalize l[k] = x at *
      obtain ⟨cb, hcb⟩ : ∃ cb, cb = wr.heap.size := ⟨_, rfl⟩
      go_wp2_with fail
      rw [← hcb]
      generalize hW : World.alloc wr _ = W1
      have c0 : W1.cell? ⟨cb, 0, none⟩ = some (.int .i64 x.at_) := by rw [← hW, hcb]; exact cell_new rfl
      have c1 : W1.cell? ⟨cb, 1, none⟩ = some (.int .i64 x.height) := by rw [← hW, hcb]; exact cell_new rfl
      have c2 : W1.cell? ⟨cb, 2, none⟩ = some (.slice sa x.shape.length sc) := by rw [← hW, hcb]; exact cell_new rfl
      have hB1 : Below wr.heap.size wr W1 := by rw [← hW]; exact bAlloc (Below.refl _ _) _
      have hr1 : W1.rowIs g 3 n (fun t => .int .i64 (curveAt base l k t)) := HROW.out.of_block (hB1.block g HROW.out.lt)
      have hgc : g < cb := by rw [hcb]; exact HROW.out.lt
      have HC0 := Lib.hid c0
      have HC1 := Lib.hid c1
      have HC2 := Lib.hid c2
      have hcl := cell_lt c0
      have HW1 := Lib.hid (bThen HB.out hB1)
      clear hW c0 c1 c2 hB1 k0 k1 k2 hkb hcb
      obtain ⟨wo, hwo⟩ : ∃ wo, wo = wr := ⟨_, rfl⟩
      subst hwo
      go_loopw [23] (fun j wi => ∃ t : Nat, t ≤ n ∧ j = .int .i64 t ∧ Hid (wi.rowIs g 3 n (fun s => .int .i64 (if s < t then curveAt base l (k + 1) s else curveAt base l k s))) ∧ Hid (wi.cell? ⟨cb, 0, none⟩ = some (.int .i64 x.at_)) ∧ Hid (wi.cell? ⟨cb, 1, none⟩ = some (.int .i64 x.height)) ∧ Hid (wi.cell? ⟨cb, 2, none⟩ = some (.slice sa x.shape.length sc)) ∧ Hid (Below w.heap.size w wi)) (fun j _ => n - (intOf j).toNat)
      case atStart => exact ⟨0, Nat.zero_le _, rfl, Lib.hid (hr1.congr fun s _ => by simp), HC0, HC1, HC2, HW1⟩
      case round =>
        obtain ⟨t, ht, rfl, HRW, HC0, HC1, HC2, HBI⟩ := hrel
        have c0 := HC0.out
        have c1 := HC1.out
        have c2 := HC2.out
        have hcl := cell_lt c0
        by_cases htl : t < n
        · have e0 := HRW.out.cell htl
          rw [if_neg (Nat.lt_irrefl t)] at e0
          have fr := HRW.out.frozen t
          have hgl := cell_lt e0
          have hy := (HIN t (by omega)).out
          have hz := cmdVal_in HXOK.out (t := (t : Int)) (by omega) (by omega)
          have HCT := HC t
          have h48 : ∀ W', Below wr.heap.size wr W' → Calls Tryd.prog 18 #[.agg #[.int .i64 x.at_, .int .i64 x.height, .slice sa x.shape.length sc], .int .i64 t] W' fun e w' => e = .returned (.int .i64 (cmdVal x t)) ∧ Below W'.heap.size W' w' := fun W' hB => value_any x t _ W' (HVS.out.keep KnotAt.stable (bThen HBI.out hB)) HXOK.out (by omega) (by omega)
          have H48 := Lib.hid h48
          clear h48
          obtain ⟨z, hzz⟩ : ∃ z, z = cmdVal x t := ⟨_, rfl⟩
          obtain ⟨y, hyy⟩ : ∃ y, y = curveAt base l k t := ⟨_, rfl⟩
          rw [← hzz] at H48 hz HCT
          rw [← hyy] at HCT hy e0
          have HZ := Lib.hid hzz
          clear hzz
          have hwr : IntKind.i64.wrap (y + z) = y + z := IntWalk.i64_in _ (by omega)
          have HK : Hid (∀ W', Below wr.heap.size wr W' → (W'.cell? ⟨g, t, none⟩ = some (.int .i64 y) ∧ W'.cell? ⟨cb, 0, none⟩ = some (.int .i64 x.at_) ∧ W'.cell? ⟨cb, 1, none⟩ = some (.int .i64 x.height) ∧ W'.cell? ⟨cb, 2, none⟩ = some (.slice sa x.shape.length sc))) := Lib.hid fun W' hB => ⟨keep hB e0, keep hB c0, keep hB c1, keep hB c2⟩
          have HF : Hid (∀ W', Below wr.heap.size wr W' → W'.frozen? ⟨g, t, none⟩ = false) := Lib.hid fun W' hB => (hB.frozen (p := ⟨g, t, none⟩) hgl).trans fr
          go_wp2_with fail
          go_region_with (first
            | (go_at_call 18; refine (H48.out _ (by repeat (first | (with_reducible exact Below.refl _ _) | refine Below.drew ?_ | refine bThen ?_ hb8))).mono ?_; rintro e w8 ⟨rfl, hb8⟩; have HB8 : Hid (Below wr.heap.size wr w8) := Lib.hid (by repeat (first | (with_reducible exact Below.refl _ _) | refine Below.drew ?_ | refine bThen ?_ hb8)); obtain ⟨d0, d1, d2, d3⟩ := HK.out w8 HB8.out; have fr8 := HF.out w8 HB8.out; have hg8 := cell_lt d0; have hc8 := cell_lt d1; clear hb8))
          all_goals
            have hrow8 := HRW.out.of_block (HB8.out.block g HRW.out.lt)
            have hset := fun v => hrow8.set t v
            have hset2 : ∀ v, Below w.heap.size w (w8.setCell ⟨g, t, none⟩ v) := fun v => (bThen HBI.out HB8.out).setCell hg2 v
            have hfar : ∀ v j u, w8.cell? ⟨cb, j, none⟩ = some u → (w8.setCell ⟨g, t, none⟩ v).cell? ⟨cb, j, none⟩ = some u := fun v j u h => (World.cell?_setCell_far w8 ⟨g, t, none⟩ ⟨cb, j, none⟩ v (by show g ≠ cb; omega)).trans h
            clear hrow8 H48 HK HF
            go_wp2_with fail
            go_roundw
            case rel =>
              refine ⟨t + 1, by omega, by go_num, Lib.hid ((hset _).congr fun s hs => ?_), Lib.hid (hfar _ _ _ d1), Lib.hid (hfar _ _ _ d2), Lib.hid (hfar _ _ _ d3), Lib.hid (hset2 _)⟩
              by_cases hst : s = t
              · subst hst
                rw [if_pos rfl, if_pos (Nat.lt_succ_self _), HCT.out, ← hyy]
              · rw [if_neg hst]
                by_cases h2 : s < t
                · rw [if_pos h2, if_pos (by omega)]
                · rw [if_neg h2, if_neg (by omega)]
            case measure => simp [intOf]; omega
        · obtain rfl : t = n := by omega
          go_wp2_with fail
          go_roundw
          case rel => exact ⟨k + 1, by omega, by go_num, Lib.hid (HRW.out.congr fun s hs => by rw [if_pos hs]), HBI⟩
          case measure => simp [intOf]; have := HLT.out; omega
    · obtain rfl : k = l.length := by omega
      go_wp2_with fail
      go_ret
      exact ⟨⟨_, rfl, HROW.out⟩, HB.out⟩

/-- A row as a list. -/
theorem row_slice {W : World} {g n : Nat} {f : Nat → Int} (h : W.rowIs g 3 n (fun t => .int .i64 (f t))) (hn : n ≤ 1000000) : SliceV W (.slice (some ⟨g, 0, none⟩) n n) 1 IntAt ((List.range n).map f) := by
  refine ⟨_, n, by simp, by simp [most]; omega, .inr ⟨g, 0, rfl, fun i hi => ?_⟩⟩
  have hi' : i < n := by simpa using hi
  have := h.cell hi'
  unfold IntAt
  simpa using this
def curveOk (n base : Int) (l : List Cmd) : Bool := betw n 0 4000 && betw base (-100000) 100000 && cmdsOk l
/-- The curve. -/
def curveL (n : Nat) (base : Int) (l : List Cmd) : List Int := (List.range n).map fun t => curveAt base l l.length t
def CurvePost (n base : Int) (l : List Cmd) (e : Ending) (w' : World) : Prop :=
  (curveOk n base l = false ∧ e = .returned (.tuple #[.slice none 0 0, .int .i64 2])) ∨
    (curveOk n base l = true ∧ ∃ (ad : Option Addr) (m : Nat), n = m ∧ m ≤ 4000 ∧ e = .returned (.tuple #[.slice ad m m, .int .i64 0]) ∧ SliceV w' (.slice ad m m) 1 IntAt (curveL m base l))
set_option maxHeartbeats 2000000 in
theorem Curve_any (n base : Int) (l : List Cmd) (v : Value) (w : World) (hv : SliceV w v 3 CmdAt l) :
    Calls Tryd.prog 9 #[.int .i64 n, .int .i64 base, v] w fun e w' => CurvePost n base l e w' ∧ Below w.heap.size w w' := by
  have HC := Lib.hid (commandsRight_any l v w hv)
  have HV := Lib.hid hv
  obtain ⟨a, c, rfl, hl, -⟩ := hv
  cases g1 : betw n 0 4000
  · go_enter Tryd.func9, Tryd.ntmps9
    go_wp2_with (first
      | (go_at_call 17; refine (between_any _ _ _ _).mono ?_; rintro e w' ⟨rfl, rfl⟩)
      | (go_at_call 19; refine HC.out.mono ?_; rintro e w1 ⟨rfl, hb⟩))
    go_ret2
    exact ⟨.inl ⟨by simp [curveOk, *], rfl⟩, by first | exact Below.refl _ _ | assumption⟩
  · cases g2 : betw base (-100000) 100000
    · go_enter Tryd.func9, Tryd.ntmps9
      go_wp2_with (first
        | (go_at_call 17; refine (between_any _ _ _ _).mono ?_; rintro e w' ⟨rfl, rfl⟩)
        | (go_at_call 19; refine HC.out.mono ?_; rintro e w1 ⟨rfl, hb⟩))
      go_ret2
      exact ⟨.inl ⟨by simp [curveOk, *], rfl⟩, by first | exact Below.refl _ _ | assumption⟩
    · cases g3 : cmdsOk l
      · rw [g3] at HC
        go_enter Tryd.func9, Tryd.ntmps9
        go_wp2_with (first
          | (go_at_call 17; refine (between_any _ _ _ _).mono ?_; rintro e w' ⟨rfl, rfl⟩)
          | (go_at_call 19; refine HC.out.mono ?_; rintro e w1 ⟨rfl, hb⟩))
        go_ret2
        exact ⟨.inl ⟨by simp [curveOk, *], rfl⟩, by first | exact Below.refl _ _ | assumption⟩
      · rw [g3] at HC
        have hok : curveOk n base l = true := by simp [curveOk, *]
        have h1 := g1
        have h2 := g2
        have h3 := g3
        simp only [betw, cmdsOk, Bool.and_eq_true, decide_eq_true_eq] at h1 h2 h3
        obtain ⟨m, rfl⟩ : ∃ m : Nat, n = (m : Int) := ⟨n.toNat, by omega⟩
        have hall : ∀ c ∈ l, cmdOk c = true := fun x hx => by
          have h4 := h3.2
          simp only [Bool.not_eq_true', List.any_eq_false] at h4
          simpa using h4 x hx
        have h52 : ∀ W, Below w.heap.size w W → _ := fun W hB => curve_any m base l _ W (by omega) h2 (by omega) hall (HV.out.keep CmdAt.stable hB)
        have H52 := Lib.hid h52
        clear h52
        go_enter Tryd.func9, Tryd.ntmps9
        go_wp2_with (first
          | (go_at_call 17; refine (between_any _ _ _ _).mono ?_; rintro e w' ⟨rfl, rfl⟩)
          | (go_at_call 19; refine HC.out.mono ?_; rintro e w1 ⟨rfl, hb⟩)
          | (go_at_call 20; refine (H52.out _ hb).mono ?_; rintro e w2 ⟨⟨g, rfl, hrow⟩, hb2⟩; have HROW := Lib.hid hrow; have HB2 := Lib.hid hb2; clear hrow hb2))
        go_ret2
        exact ⟨.inr ⟨hok, _, m, rfl, by omega, rfl, row_slice HROW.out (by omega)⟩, bThen hb HB2.out⟩
end Go.Proofs.YtejcbcjhmnhefabDoor
