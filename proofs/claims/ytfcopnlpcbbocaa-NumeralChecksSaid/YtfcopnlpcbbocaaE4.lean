/- Contracts: what a piece says, where it is a rest or a quotient. -/
import Derived.Test.YtfcopnlpcbbocaaE3
namespace Go.Proofs.Ytfcopnlpcbbocaa
open Go.RowKit
attribute [local go_sem] Oper.semAt_some

set_option maxRecDepth 100000 in
set_option maxHeartbeats 4000000 in
theorem sayRest_any (S : Sys) (a : Ask) (d : Int) (b sb l i : Nat) (pc : Pce) (w0 W : World) (R : Ending → World → Prop) (hp : PartIn w0 W b sb S a d) (hB0 : Below w0.heap.size w0 W)
    (hi : i < (ruleOf S a).pieces.length) (hpc : (ruleOf S a).pieces[i] = pc) (hd : IntKind.i64.wrap (d + 1) = d + 1)
    (hno : rst (ruleOf S a) a.num = 0 → ∀ W', Below W.heap.size W W' → R (.returned (.bool true)) W')
    (hK : ∀ e W', R e W' → Below w0.heap.size w0 W' ∧ ∀ o v, W.cell? ⟨b, o, none⟩ = some v → W'.cell? ⟨b, o, none⟩ = some v)
    (hY : rst (ruleOf S a) a.num ≠ 0 → ∀ W', Below W.heap.size W W' → Calls Try.prog 94 #[.pointer (some ⟨sb, 0, none⟩), (askRst S a pc.set).val, .int .i64 (d + 1), .func (.yield l) #[] #[]] W' (AndBool R)) :
    Calls Try.prog 73 #[.pointer (some ⟨b, 0, none⟩), .int .i64 i, .func (.yield l) #[] #[]] W (AndBool R) := by
  have HY := Lib.hid hY
  have HN := Lib.hid hno
  have HPC := Lib.hid hpc
  have HK := Lib.hid hK
  obtain ⟨⟨q0, q1, q2, q3, q4, q5, q6, q7, -, q9, q10, q11⟩, -, v, q8, hv⟩ := hp
  obtain ⟨pa, pcap, rfl, hpl, hy⟩ := hv
  unfold most at hpl
  rcases hy with hnil | ⟨pb, po, rfl, hpp⟩
  · simp [hnil] at hi
  obtain ⟨-, -, z2, -⟩ := hpp i hi
  rw [HPC.out] at z2
  have p2 := keep hB0 z2
  have hb := cell_lt q0
  have hpb := cell_lt p2
  have hi0 : (0 : Int) ≤ (i : Int) := by omega
  have hi1 : (i : Int) < ((ruleOf S a).pieces.length : Int) := by omega
  have hi2 : ((i : Int)).toNat = i := by omega
  clear hY hpc hno hpp hK
  by_cases h0 : rst (ruleOf S a) a.num = 0
  · have h0' : (rst (ruleOf S a) a.num == 0) = true := by simp [h0]
    have H0 := Lib.hid h0
    clear h0
    go_enter Try.func73, Try.ntmps73
    go_wp2_with fail
    refine wp_opaque fun Q2 hQ2 => ?_
    (refine wp_region_below (by kernel_rfl) (by kernel_rfl) ?_; (repeat (first | go_big_quiet_step (fail) | quiet_step (fail))); (refine wpQuiet_nil ?_; intro _ hw'; obtain ⟨xq, hw''⟩ := hw'; subst hw''))
    refine hQ2 _ _ _ ?_
    go_wp2_with fail
    go_ret
    exact ⟨⟨_, rfl⟩, HN.out H0.out _ xq.2⟩
  have h0' : (rst (ruleOf S a) a.num == 0) = false := by simp [h0]
  have h94 := HY.out h0
  have HK2 : ∀ e W', R e W' → (W'.cell? ⟨b, 11, none⟩ = some (.int .i64 d) ∧ W'.cell? ⟨b, 0, none⟩ = some (.pointer (some ⟨sb, 0, none⟩)) ∧ W'.cell? ⟨b, 10, none⟩ = some (.int .i64 (rst (ruleOf S a) a.num)) ∧ W'.cell? ⟨b, 8, none⟩ = some (.slice (some ⟨pb, po, none⟩) (ruleOf S a).pieces.length pcap) ∧ W'.cell? ⟨pb, po + i * 4 + 2, none⟩ = some (.int .i64 pc.set)) :=
    fun e W' h => ⟨(HK.out e W' h).2 _ _ q11, (HK.out e W' h).2 _ _ q0, (HK.out e W' h).2 _ _ q10, (HK.out e W' h).2 _ _ q8, keep (HK.out e W' h).1 z2⟩
  have HK1 : ∀ W', Below W.heap.size W W' → (W'.cell? ⟨b, 11, none⟩ = some (.int .i64 d) ∧ W'.cell? ⟨b, 0, none⟩ = some (.pointer (some ⟨sb, 0, none⟩)) ∧ W'.cell? ⟨b, 10, none⟩ = some (.int .i64 (rst (ruleOf S a) a.num)) ∧ W'.cell? ⟨b, 8, none⟩ = some (.slice (some ⟨pb, po, none⟩) (ruleOf S a).pieces.length pcap) ∧ W'.cell? ⟨pb, po + i * 4 + 2, none⟩ = some (.int .i64 pc.set)) :=
    fun W' h => ⟨keep h q11, keep h q0, keep h q10, keep h q8, keep h p2⟩
  clear h0
  go_enter Try.func73, Try.ntmps73
  go_wp2_with fail
  refine wp_opaque fun Q2 hQ2 => ?_
  have h90 : ∀ W', Below W.heap.size W W' → Calls Try.prog 90 #[.pointer (some ⟨b, 0, none⟩), .int .i64 pc.set] W' fun e w' => e = .returned (askRst S a pc.set).val ∧ Below W'.heap.size W' w' :=
    fun W' hB => askRest_any a.gen a.kas (rst (ruleOf S a) a.num) pc.set b W' (keep hB q10) (keep hB q3) (keep hB q4)
  go_region_held3 (fun w' => w'.cell? ⟨b, 11, none⟩ = some (.int .i64 d) ∧ w'.cell? ⟨b, 0, none⟩ = some (.pointer (some ⟨sb, 0, none⟩)) ∧ w'.cell? ⟨b, 10, none⟩ = some (.int .i64 (rst (ruleOf S a) a.num)) ∧ w'.cell? ⟨b, 8, none⟩ = some (.slice (some ⟨pb, po, none⟩) (ruleOf S a).pieces.length pcap) ∧ w'.cell? ⟨pb, po + i * 4 + 2, none⟩ = some (.int .i64 pc.set)) (((try dsimp only); first | exact HK2 _ _ hr | exact HK1 _ (by (repeat (first | exact Below.refl _ _ | refine Below.drew ?_ | refine bAlloc ?_ _ | refine Below.setCell ?_ (by simp) _ | refine bThen ?_ hb1))))) (first | (go_at_call 90; refine (h90 _ (by (repeat (first | exact Below.refl _ _ | refine Below.drew ?_ | refine bAlloc ?_ _ | refine Below.setCell ?_ (by simp) _ | refine bThen ?_ hb1)))).mono ?_; rintro e w1 ⟨rfl, hb1⟩; obtain ⟨hc, hf⟩ := bcell hb1) | (go_at_call 94; refine (h94 _ (by (repeat (first | exact Below.refl _ _ | refine Below.drew ?_ | refine bAlloc ?_ _ | refine Below.setCell ?_ (by simp) _ | refine bThen ?_ hb1)))).mono ?_; rintro e w2 ⟨⟨t, rfl⟩, hr⟩))
  refine hQ2 _ _ _ ?_
  go_wp2_with fail
  go_ret
  exact ⟨⟨t, rfl⟩, hr⟩
set_option maxRecDepth 100000 in
set_option maxHeartbeats 4000000 in
theorem sayQuotient_any (S : Sys) (a : Ask) (d : Int) (b sb l i : Nat) (pc : Pce) (w0 W : World) (R : Ending → World → Prop) (hp : PartIn w0 W b sb S a d) (hB0 : Below w0.heap.size w0 W) (hs : SplAt W sb S)
    (hi : i < (ruleOf S a).pieces.length) (hpc : (ruleOf S a).pieces[i] = pc) (hd : IntKind.i64.wrap (d + 1) = d + 1)
    (hterm : ∀ i (h : i < (ruleOf S a).pieces.length), (ruleOf S a).pieces[i].kind = 2 → 0 ≤ (ruleOf S a).pieces[i].term ∧ (ruleOf S a).pieces[i].term < S.terms.length)
    (hK : ∀ e W', R e W' → Below w0.heap.size w0 W' ∧ ∀ o v, W.cell? ⟨b, o, none⟩ = some v → W'.cell? ⟨b, o, none⟩ = some v)
    (h94 : ∀ W', Below W.heap.size W W' → Calls Try.prog 94 #[.pointer (some ⟨sb, 0, none⟩), (askQuo S a pc.set).val, .int .i64 (d + 1), .func (.yield l) #[] #[]] W' (AndBool R)) :
    Calls Try.prog 72 #[.pointer (some ⟨b, 0, none⟩), .int .i64 i, .func (.yield l) #[] #[]] W (AndBool R) := by
  have HPC := Lib.hid hpc
  have HK := Lib.hid hK
  obtain ⟨⟨q0, q1, q2, q3, q4, q5, q6, q7, -, q9, q10, q11⟩, -, v, q8, hv⟩ := hp
  have HV := Lib.hid (hv.keep PceAt.stable hB0)
  have HS := Lib.hid hs
  have HT := Lib.hid hterm
  obtain ⟨pa, pcap, rfl, hpl, hy⟩ := hv
  unfold most at hpl
  rcases hy with hnil | ⟨pb, po, rfl, hpp⟩
  · simp [hnil] at hi
  obtain ⟨-, -, z2, -⟩ := hpp i hi
  rw [HPC.out] at z2
  have p2 := keep hB0 z2
  have hb := cell_lt q0
  have hpb := cell_lt p2
  have hi0 : (0 : Int) ≤ (i : Int) := by omega
  have hi1 : (i : Int) < ((ruleOf S a).pieces.length : Int) := by omega
  have hi2 : ((i : Int)).toNat = i := by omega
  clear hpc hpp hK hs hterm
  have HK2 : ∀ e W', R e W' → (W'.cell? ⟨b, 11, none⟩ = some (.int .i64 d) ∧ W'.cell? ⟨b, 0, none⟩ = some (.pointer (some ⟨sb, 0, none⟩)) ∧ W'.cell? ⟨b, 8, none⟩ = some (.slice (some ⟨pb, po, none⟩) (ruleOf S a).pieces.length pcap) ∧ W'.cell? ⟨pb, po + i * 4 + 2, none⟩ = some (.int .i64 pc.set)) :=
    fun e W' h => ⟨(HK.out e W' h).2 _ _ q11, (HK.out e W' h).2 _ _ q0, (HK.out e W' h).2 _ _ q8, keep (HK.out e W' h).1 z2⟩
  have HK1 : ∀ W', Below W.heap.size W W' → (W'.cell? ⟨b, 11, none⟩ = some (.int .i64 d) ∧ W'.cell? ⟨b, 0, none⟩ = some (.pointer (some ⟨sb, 0, none⟩)) ∧ W'.cell? ⟨b, 8, none⟩ = some (.slice (some ⟨pb, po, none⟩) (ruleOf S a).pieces.length pcap) ∧ W'.cell? ⟨pb, po + i * 4 + 2, none⟩ = some (.int .i64 pc.set)) :=
    fun W' h => ⟨keep h q11, keep h q0, keep h q8, keep h p2⟩
  have h89 : ∀ W', Below W.heap.size W W' → Calls Try.prog 89 #[.pointer (some ⟨b, 0, none⟩), .int .i64 pc.set] W' fun e w' => e = .returned (askQuo S a pc.set).val ∧ Below W'.heap.size W' w' :=
    fun W' hB => askQuotient_any S a.gen a.kas (quo (ruleOf S a) a.num) pc.set _ _ b sb W' (HS.out.keep hB).1 (keep hB q0) (keep hB q9) (keep hB q3) (keep hB q4) (keep hB q8) (HV.out.keep PceAt.stable hB) HT.out
  go_enter Try.func72, Try.ntmps72
  go_wp2_with fail
  refine wp_opaque fun Q2 hQ2 => ?_
  go_region_held3 (fun w' => w'.cell? ⟨b, 11, none⟩ = some (.int .i64 d) ∧ w'.cell? ⟨b, 0, none⟩ = some (.pointer (some ⟨sb, 0, none⟩)) ∧ w'.cell? ⟨b, 8, none⟩ = some (.slice (some ⟨pb, po, none⟩) (ruleOf S a).pieces.length pcap) ∧ w'.cell? ⟨pb, po + i * 4 + 2, none⟩ = some (.int .i64 pc.set)) (((try dsimp only); first | exact HK2 _ _ hr | exact HK1 _ (by (repeat (first | exact Below.refl _ _ | refine Below.drew ?_ | refine bAlloc ?_ _ | refine Below.setCell ?_ (by simp) _ | refine bThen ?_ hb1))))) (first | (go_at_call 89; refine (h89 _ (by (repeat (first | exact Below.refl _ _ | refine Below.drew ?_ | refine bAlloc ?_ _ | refine Below.setCell ?_ (by simp) _ | refine bThen ?_ hb1)))).mono ?_; rintro e w1 ⟨rfl, hb1⟩; obtain ⟨hc, hf⟩ := bcell hb1) | (go_at_call 94; refine (h94 _ (by (repeat (first | exact Below.refl _ _ | refine Below.drew ?_ | refine bAlloc ?_ _ | refine Below.setCell ?_ (by simp) _ | refine bThen ?_ hb1)))).mono ?_; rintro e w2 ⟨⟨t, rfl⟩, hr⟩))
  refine hQ2 _ _ _ ?_
  go_wp2_with fail
  go_ret
  exact ⟨⟨t, rfl⟩, hr⟩
end Go.Proofs.Ytfcopnlpcbbocaa
