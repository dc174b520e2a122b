import Derived.Test.YtodpkdajbnceoaaGreatDoorPart31
import Derived.Test.YtodpkdajbnceoaaGreatDoorPart11
set_option linter.unusedVariables false
set_option linter.unusedSimpArgs false
namespace Go.Proofs.YtodpkdajbnceoaaGreatDoor
open Go.RowKit Go.Shelf

/-! Operations. -/

theorem ssS_pow (n : ByteArray) : ssS n = if 0 < powS n 2 then powS n 2 else 3 := by
  unfold ssS powS
  by_cases h1 : n = B [43] ∨ n = B [45]
  · simp [h1]
  · by_cases h2 : n = B [42] ∨ n = B [47, 47] ∨ n = B [109, 111, 100]
    · simp [h1, h2]
    · simp [h1, h2]

theorem powS_range (n : ByteArray) : powS n 2 = 0 ∨ powS n 2 = 1 ∨ powS n 2 = 2 := by
  unfold powS
  rw [if_neg (by decide)]
  split
  · exact .inr (.inl rfl)
  · split
    · exact .inr (.inr rfl)
    · exact .inl rfl

/-- brackets are put around what binds less -/
def brS (x : Ex) (br : Bool) (s : List Nat) : List UInt8 × List Nat := if br then (40 :: ((outS x 0 s).1 ++ [41]), (outS x 0 s).2) else outS x 0 s

theorem out_least (x : Ex) (least : Int) (hl : 0 ≤ least) (hl3 : least ≤ 3) (s : List Nat) : outS x least s = brS x (decide (strOf x < least)) s := by
  unfold brS
  match x with
  | .atom n => rw [outS, outS, show strOf (Ex.atom n) = 3 from rfl]; simp; omega
  | .num v => rw [outS, outS, show strOf (Ex.num v) = 3 from rfl]; simp; omega
  | .var k => rw [outS, outS, show strOf (Ex.var k) = 3 from rfl]; simp; omega
  | .cmp n [] => rw [strOf]; simp [outS]; omega
  | .cmp n [a] => rw [strOf]; simp [outS]; omega
  | .cmp n (a :: b :: c :: l) => rw [strOf]; simp [outS]; omega
  | .cmp n [a, b] =>
    have hs : strOf (.cmp n [a, b]) = ssS n := by rw [strOf]; simp
    rw [hs, ssS_pow]
    by_cases hp : 0 < powS n 2
    · have h0 : ¬ powS n 2 < 0 := by omega
      simp only [outS, if_pos hp, if_neg h0]
      by_cases hq : powS n 2 < least
      · simp [hq]
      · simp [hq]
    · have h3 : ¬ (3 : Int) < least := by omega
      simp [outS, hp, h3]

set_option maxRecDepth 100000 in
set_option maxHeartbeats 1000000 in
theorem operand_c {w0 : World} {vbs : List Nat} {x : Ex} (hx : WrOk w0 vbs x) (hxs : short x) (br : Bool) {w : World} {wb mb : Nat} {out : List UInt8} {bv : Value} {seen : List Nat} {u : Value}
    (h : WOn w0 vbs w wb mb out bv seen) (hT : TRep w (fun _ => True) vbs x u) (hb1 : out.length + 2100 * szE x ≤ 300000000) (hb2 : seen.length + szE x ≤ 100000) :
    Calls Tryz.prog 282 #[ptrV wb, u, .bool br] w fun e w' => WPost w0 vbs wb mb out bv w (brS x br seen) e w' := by
  have hlen := (len_ok _ x (Nat.le_refl _) hxs).1 0 seen (by omega)
  have hp := szE_pos x
  obtain ⟨tx, vx, rfl, _⟩ := hT.form
  have hlt := h.wr.lt_size
  cases br with
  | false =>
    have HX := hide (hx w wb mb out bv seen _ h hT (by omega) hb2)
    clear hx h hT
    unfold ptrV at *
    go_enter Tryz.func282, Tryz.ntmps282
    go_wp2_with (first | (go_at_call 142; refine HX.out.mono ?_; rintro e w2 ⟨rfl, bv2, h2, f2⟩))
    go_end0
    exact WPost.mk' h2 f2 (by simp [brS]) (by simp [brS])
  | true =>
    have HB := hide (byte_w h 40 (by omega))
    have HX := hide (fun w1 bv1 (h1 : WOn w0 vbs w1 wb mb (out ++ [40]) bv1 seen) (f1 : WFr wb mb bv bv1 w w1) => hx w1 wb mb (out ++ [40]) bv1 seen _ h1 (hT.frame (h.wr.tkeeps f1) (fun _ h _ => h) (List.prefix_refl _)) (by simp only [List.length_append, List.length_singleton]; omega) hb2)
    have HB2 := hide (fun w2 bv2 sn (h2 : WOn w0 vbs w2 wb mb (out ++ [40] ++ (outS x 0 seen).1) bv2 sn) => byte_w h2 41 (by simp only [List.length_append, List.length_singleton]; omega))
    clear hx h hT
    unfold ptrV at *
    go_enter Tryz.func282, Tryz.ntmps282
    go_upto_region 4 with (first | (go_at_call 161; refine HB.out.mono ?_; rintro e w1 ⟨v1, bv1, rfl, h1, f1⟩) | (go_at_call 142; refine (HX.out _ _ h1 f1).mono ?_; rintro e w2 ⟨rfl, bv2, h2, f2⟩))
    have hlt2 := h2.wr.lt_size
    go_wp2_with (first | (go_at_call 161; refine (HB2.out _ _ _ h2).mono ?_; rintro e w3 ⟨v3, bv3, rfl, h3, f3⟩))
    go_end0
    exact WPost.mk' h3 ((f1.trans f2).trans f3) (by simp [brS]) (by simp [brS])

end Go.Proofs.YtodpkdajbnceoaaGreatDoor

namespace Go.Proofs.YtodpkdajbnceoaaGreatDoor
open Go.RowKit Go.Shelf

/-! Operations, whole. -/

theorem brS_len (x : Ex) (br : Bool) (s : List Nat) : (brS x br s).1.length ≤ (outS x 0 s).1.length + 2 ∧ (brS x br s).2 = (outS x 0 s).2 := by
  unfold brS
  split
  · simp
  · simp

theorem out_op {n : ByteArray} {a b : Ex} {P : Int} (hp : 0 < powS n 2) (hP : P = powS n 2) (s : List Nat) :
    outS (.cmp n [a, b]) 0 s = ((brS a (decide (strOf a < P)) s).1 ++ opOut n ++ (brS b (decide (strOf b ≤ P)) (brS a (decide (strOf a < P)) s).2).1, (brS b (decide (strOf b ≤ P)) (brS a (decide (strOf a < P)) s).2).2) := by
  have hr := powS_range n
  subst hP
  have h0 : ¬ powS n 2 < 0 := by omega
  have e2 : ∀ s, outS b (powS n 2 + 1) s = brS b (decide (strOf b ≤ powS n 2)) s := fun s => by
    rw [out_least b _ (by omega) (by omega), show decide (strOf b < powS n 2 + 1) = decide (strOf b ≤ powS n 2) from decide_eq_decide.2 (by omega)]
  rw [outS, if_pos hp]
  simp only [if_neg h0, out_least a _ (Int.le_of_lt hp) (show powS n 2 ≤ 3 by omega), e2]

set_option maxRecDepth 100000 in
set_option maxHeartbeats 4000000 in
theorem operation_c {w0 : World} {vbs : List Nat} (hC : WCtx w0 vbs) {n : ByteArray} {a b : Ex} (hA : WrOk w0 vbs a) (hB : WrOk w0 vbs b) (has : short a) (hbs : short b) (hn : n.size ≤ 2000) (hp : 0 < powS n 2)
    {w : World} {wb mb : Nat} {out : List UInt8} {bv : Value} {seen : List Nat} {g ga cap : Nat} {cur : Array Value} {ua ub : Value}
    (h : WOn w0 vbs w wb mb out bv seen) (hg : CompAt w g n ga 2 cap) (ha : w.heap[ga]? = some (.cells cur 185 (0, 0))) (hu : cur.toList.take 2 = [ua, ub]) (hTa : TRep w (fun _ => True) vbs a ua) (hTb : TRep w (fun _ => True) vbs b ub)
    (hb1 : out.length + 2100 * (1 + szE a + szE b) ≤ 300000040) (hb2 : seen.length + (1 + szE a + szE b) ≤ 100000) :
    Calls Tryz.prog 230 #[ptrV wb, ptrV g] w fun e w' => WPost w0 vbs wb mb out bv w (outS (.cmp n [a, b]) 0 seen) e w' := by
  have hr := powS_range n
  obtain ⟨P, hP⟩ : ∃ P, P = powS n 2 := ⟨_, rfl⟩
  rw [out_op hp hP]
  have hss : ssS n = P := by rw [ssS_pow, if_pos hp, hP]
  obtain ⟨r1, hr1⟩ : ∃ r1, r1 = brS a (decide (strOf a < P)) seen := ⟨_, rfl⟩
  have hl1 := brS_len a (decide (strOf a < P)) seen
  have hla := (len_ok _ a (Nat.le_refl _) has).1 0 seen (by omega)
  rw [← hr1] at hl1
  obtain ⟨r2, hr2⟩ : ∃ r2, r2 = brS b (decide (strOf b ≤ P)) r1.2 := ⟨_, rfl⟩
  rw [← hr1, ← hr2]
  have hop : (opOut n).length ≤ 2000 := by
    unfold opOut
    split
    · simp
    · exact hn
  have hp' : 0 < P := by omega
  have hp3 : P < 3 := by omega
  obtain ⟨ta, va, fa, hMa⟩ := hTa.str
  obtain ⟨tb, vb, fb, hMb⟩ := hTb.str
  have hua := hMa.u
  have hub := hMb.u
  subst hua hub
  have hma := hMa.m
  have hmb := hMb.m
  have hea : ∀ args w, (callFunc fa args).run Tryz.prog w = .ok (.enter fa args) w := hMa.e
  have heb : ∀ args w, (callFunc fb args).run Tryz.prog w = .ok (.enter fb args) w := hMb.e
  have HCa := hide hMa.c
  have HCb := hide hMb.c
  have HCS : Hid (∀ w', TKeeps (fun _ => True) w w' → Calls Tryz.prog 283 #[ptrV g] w' fun e w'' => e = .returned (.int .i64 P) ∧ w'' = w') := fun w' hk => (compStrength_c (hk g _ _ (.inl rfl) hg) (by unfold maxLen; omega)).mono fun e w'' ⟨h1, h2⟩ => ⟨by rw [h1, if_pos rfl, hss], h2⟩
  have hgl : g < w.heap.size := (Array.getElem?_eq_some_iff.1 hg).1
  have hgal : ga < w.heap.size := (Array.getElem?_eq_some_iff.1 ha).1
  have d0 : w.cell? ⟨ga, 0, none⟩ = some (.iface ta va) := rowCell (w := w) ha hu rfl
  have d1 : w.cell? ⟨ga, 1, none⟩ = some (.iface tb vb) := rowCell (w := w) ha hu rfl
  have HGG : Hid (∀ z : Int, z = 0 ∨ z = 1 → Calls Tryz.prog 281 #[ptrV g, .int .i64 z] w fun e w' => e = .returned (.iface (if z = 0 then ta else tb) (if z = 0 then va else vb)) ∧ w' = w) := fun z hz => by
    rcases hz with rfl | rfl
    · exact arg_c (j := 0) hg (by decide) d0 hgal
    · exact arg_c (j := 1) hg (by decide) d1 hgal
  have HRR : Hid (∀ t v, (t = ta ∧ v = va) ∨ (t = tb ∧ v = vb) → Calls Tryz.prog 182 #[.iface t v] w fun e w' => e = .returned (.iface t v) ∧ w' = w) := fun t v hz => by
    rcases hz with ⟨rfl, rfl⟩ | ⟨rfl, rfl⟩
    · exact resolve_c hTa (h.vbl hC)
    · exact resolve_c hTb (h.vbl hC)
  have HD := hide h
  have hkd : TKeeps (fun _ => True) w w := fun _ _ _ _ h => h
  have HOA := hide (operand_c hA has (decide (strOf a < P)) HD.out hTa (by omega) (by omega))
  rw [← hr1] at HOA
  have HK : Hid (∀ w1 bv1, WFr wb mb bv bv1 w w1 → TKeeps (fun _ => True) w w1) := fun w1 bv1 f1 => (HD.out.wr.tkeeps (Ok := fun _ => True) f1)
  have HG := hide hg
  have HTB := hide hTb
  have HBo := hide (fun (w2 : World) (out2 : List UInt8) (bv2 : Value) (h2 : WOn w0 vbs w2 wb mb out2 bv2 r1.2) (hk : TKeeps (fun _ => True) w w2) (hq : out2.length ≤ out.length + r1.1.length + 2000) => operand_c hB hbs (decide (strOf b ≤ P)) h2 (HTB.out.frame hk (fun _ h _ => h) (List.prefix_refl _)) (by omega) (by rw [hl1.2]; omega))
  rw [← hr2] at HBo
  have HL1 := hide hl1
  have HHn := hide hn
  clear hA hB hMa hMb hg ha hu hTa hTb h hr d0 d1 hP hr1 hr2 hss hl1 has hbs
  unfold ptrV at *
  go_enter Tryz.func230, Tryz.ntmps230
  go_upto_region 2 with (first | (go_at_call 281; refine (HGG.out _ (by first | exact .inl rfl | exact .inr rfl)).mono ?_; rintro e w1 ⟨rfl, hw1⟩; subst w1) | (go_at_call 182; refine (HRR.out _ _ (by first | exact .inl ⟨rfl, rfl⟩ | exact .inr ⟨rfl, rfl⟩)).mono ?_; rintro e w1 ⟨rfl, hw1⟩; subst w1) | (go_at_fn fa; refine (HCa.out _ hkd).mono ?_; rintro e w1 ⟨rfl, hw1⟩; subst w1) | (go_at_call 283; refine (HCS.out _ hkd).mono ?_; rintro e w1 ⟨rfl, hw1⟩; subst w1) | (go_at_call 282; refine HOA.out.mono ?_; rintro e w1 ⟨rfl, bv1, h1, f1⟩))
  have hk1 := HK.out _ _ f1
  have hg1 := hk1 g _ _ (.inl rfl) HG.out
  have c0' : w1.cell? ⟨g, 0, none⟩ = some (.string n) := by rw [cell_of_block hg1]; rfl
  have hgl1 : g < w1.heap.size := (Array.getElem?_eq_some_iff.1 hg1).1
  have hlt1 := h1.wr.lt_size
  have hl1 := HL1.out.1
  by_cases hmod : n = B [109, 111, 100]
  · have HS := hide (str_w h1 (B [32, 109, 111, 100, 32]) (by rw [B_size]; simp only [List.length_append, List.length_cons, List.length_nil]; omega))
    have hmd : (n.toList == [109, 111, 100]) = true := (strb n [109, 111, 100]).1 hmod
    have HM := hide hmod
    clear hmod
    go_upto_region 5 with (first | (go_at_call 114; refine HS.out.mono ?_; rintro e w2 ⟨v2, bv2, rfl, h2, f2⟩))
    have hk2 : TKeeps (fun _ => True) w w2 := HK.out _ _ (f1.trans f2)
    have hb := HBo.out w2 _ bv2 h2 hk2 (by simp only [List.length_append]; simp [B])
    have HB3 := hide hb
    clear hb
    go_wp2_with (first | (go_at_fn fb; refine (HCb.out _ hk2).mono ?_; rintro e w3 ⟨rfl, rfl⟩) | (go_at_call 283; refine (HCS.out _ hk2).mono ?_; rintro e w3 ⟨rfl, rfl⟩) | (go_at_call 282; refine HB3.out.mono ?_; rintro e w3 ⟨rfl, bv3, h3, f3⟩))
    go_end0
    refine WPost.mk' h3 ((f1.trans f2).trans f3) ?_ rfl
    rw [opOut, if_pos HM.out]
    simp [B]
  · have hmd : (n.toList == [109, 111, 100]) = false := by
      have := (not_congr (strb n [109, 111, 100])).1 hmod
      simpa using this
    have HM := hide hmod
    clear hmod
    have h1d := h1.below' (Below.refl _ _).drew
    have HS := hide (str_w h1d n (by have := HHn.out; simp only [List.length_append]; omega))
    have c0'' : w1.drew.cell? ⟨g, 0, none⟩ = some (.string n) := c0'
    go_wp2
    go_region_with (first | (go_at_call 114; refine HS.out.mono ?_; rintro e w2 ⟨v2, bv2, rfl, h2, f2⟩))
    have f2' : WFr wb mb bv1 bv2 w1 w2 := (WFr.of_below (Below.refl _ _).drew).trans f2
    have hk2 : TKeeps (fun _ => True) w w2 := HK.out _ _ (f1.trans f2')
    have hb := HBo.out w2 _ bv2 h2 hk2 (by have := HHn.out; simp only [List.length_append, Array.length_toList]; exact Nat.add_le_add_left this _)
    have HB3 := hide hb
    clear hb
    go_wp2_with (first | (go_at_fn fb; refine (HCb.out _ hk2).mono ?_; rintro e w3 ⟨rfl, rfl⟩) | (go_at_call 283; refine (HCS.out _ hk2).mono ?_; rintro e w3 ⟨rfl, rfl⟩) | (go_at_call 282; refine HB3.out.mono ?_; rintro e w3 ⟨rfl, bv3, h3, f3⟩))
    go_end0
    refine WPost.mk' h3 ((f1.trans f2').trans f3) ?_ rfl
    rw [opOut, if_neg HM.out]
    simp

end Go.Proofs.YtodpkdajbnceoaaGreatDoor

namespace Go.Proofs.YtodpkdajbnceoaaGreatDoor
open Go.RowKit Go.Shelf

/-! Lists. -/

/-- the list of nothing -/
def isNilS : Ex → Bool
  | .atom n => decide (n = B [91, 93])
  | _ => false

theorem rest_no {r : Ex} (hn : NoCell r) (s : List Nat) : restS r s = if isNilS r then ([93], s) else (124 :: ((outS r 0 s).1 ++ [93]), (outS r 0 s).2) := by
  match r with
  | .atom n =>
    rw [restS]
    by_cases h : n = B [91, 93]
    · simp [h, isNilS]
    · simp [h, isNilS, outS]
  | .num v => rw [restS] <;> simp [isNilS]
  | .var k => rw [restS] <;> simp [isNilS]
  | .cmp n [] => rw [restS] <;> simp [isNilS]
  | .cmp n [a] => rw [restS] <;> simp [isNilS]
  | .cmp n [a, b] =>
    have h : ¬ n = B [46] := fun e => hn a b (by rw [e]; rfl)
    rw [restS, if_neg h]
    simp [isNilS]
  | .cmp n (a :: b :: c :: l) => rw [restS] <;> simp [isNilS]

theorem rest_row : ∀ (exs : List Ex) (r : Ex) (s : List Nat), restS (exs.foldr cellEx r) s = ((rowS exs false s).1 ++ (restS r (rowS exs false s).2).1, (restS r (rowS exs false s).2).2)
  | [], r, s => by simp [rowS]
  | a :: l, r, s => by
    have ih := rest_row l r (outS a 0 s).2
    rw [List.foldr_cons, cellEx, restS, if_pos rfl, rowS]
    simp [ih]

theorem out_list (a : Ex) (l : List Ex) (r : Ex) (s : List Nat) : outS ((a :: l).foldr cellEx r) 0 s = (91 :: ((rowS (a :: l) true s).1 ++ (restS r (rowS (a :: l) true s).2).1), (restS r (rowS (a :: l) true s).2).2) := by
  rw [List.foldr_cons, cellEx, outS_dot, rest_row l r, rowS]
  simp

theorem sz_fold : ∀ (exs : List Ex) (r : Ex), szE (exs.foldr cellEx r) = szL exs + exs.length + szE r
  | [], r => by simp [szL]
  | a :: l, r => by
    have := sz_fold l r
    rw [List.foldr_cons, cellEx, szE, szL, szL, szL, this, szL]
    simp; omega

theorem short_fold : ∀ (exs : List Ex) (r : Ex), short (exs.foldr cellEx r) → shortL exs ∧ short r
  | [], r, h => ⟨trivial, h⟩
  | a :: l, r, h => by
    obtain ⟨_, h1, h2, _⟩ : (B [46]).size ≤ 2000 ∧ short a ∧ short (l.foldr cellEx r) ∧ True := h
    have := short_fold l r h2
    exact ⟨⟨h1, this.1⟩, this.2⟩

theorem Tryz.underlyingTerm : (Tryz.prog.underlying 185).map (fun d => match d with | .interface _ => true | _ => false) = some true := by kernel_rfl
theorem Tryz.compAtom : (Tryz.prog.info? 338).map (·.comparable) = some true := by kernel_rfl
theorem Tryz.underlyingAtom : Tryz.prog.underlying 338 = some .string := by kernel_rfl

theorem neq_other {ms : Array (String × TypeId)} (hd : Tryz.prog.underlying 185 = some (.interface ms)) (t : TypeId) (v u : Value) (ht : t ≠ 338) (w : World) : (binOp .neq 185 (.iface t v) (.iface 338 u)).run Tryz.prog w = .ok (.bool true) w := by
  have h1 : ∀ k : Nat, (Op.equalIn (k + 2) 185 (.iface t v) (.iface 338 u)).run Tryz.prog w = .ok false w := fun k => by
    simp [Op.equalIn, run_underlying hd, ht]
  simp only [binOp]
  simp [Op.equal, Op.maxDepth, h1 9998]

theorem beq_B (n : ByteArray) (l : List UInt8) : (n == B l) = decide (n = B l) := by
  rw [Bool.eq_iff_iff, decide_eq_true_iff]
  exact MapKept.bytes_beq n (B l)

theorem neq_atom {ms : Array (String × TypeId)} (hd : Tryz.prog.underlying 185 = some (.interface ms)) (n : ByteArray) (l : List UInt8) (w : World) : (binOp .neq 185 (.iface 338 (.string n)) (.iface 338 (.string (B l)))).run Tryz.prog w = .ok (.bool (!decide (n = B l))) w := by
  obtain ⟨j, hj, hc⟩ := Option.map_eq_some_iff.1 Tryz.compAtom
  have h1 : ∀ k : Nat, (Op.equalIn (k + 2) 185 (.iface 338 (.string n)) (.iface 338 (.string (B l)))).run Tryz.prog w = .ok (n == B l) w := fun k => by
    simp [Op.equalIn, run_underlying hd, run_underlying Tryz.underlyingAtom, typeInfo, hj, hc]
  rw [← beq_B]
  simp only [binOp]
  simp [Op.equal, Op.maxDepth, h1 9998]

theorem rest_neq {w : World} {Ok : Nat → Prop} {vbs : List Nat} {r : Ex} {u : Value} (h : TRep w Ok vbs r u) (w' : World) : (binOp .neq 185 u (.iface 338 (.string (B [91, 93])))).run Tryz.prog w' = .ok (.bool (!isNilS r)) w' := by
  obtain ⟨d, hd, hi⟩ := Option.map_eq_some_iff.1 Tryz.underlyingTerm
  obtain ⟨ms, rfl⟩ : ∃ ms, d = .interface ms := by
    cases d <;> simp at hi
    exact ⟨_, rfl⟩
  cases h with
  | atom n => exact neq_atom hd n [91, 93] w'
  | num v => exact neq_other hd _ _ _ (by decide) w'
  | var k b hk => exact neq_other hd _ _ _ (by decide) w'
  | cmp n args g ga cap cur us hg ho ha hc hm hs hu hr => exact neq_other hd _ _ _ (by decide) w'

end Go.Proofs.YtodpkdajbnceoaaGreatDoor
