import Derived.Test.YtdigbgbmfjggnaaGreatDoorPart42
import Derived.Test.YtdigbgbmfjggnaaGreatDoorPart19
set_option linter.unusedVariables false
set_option linter.unusedSimpArgs false
namespace Go.Proofs.YtdigbgbmfjggnaaGreatDoor
open Go.RowKit

/-! Programs. -/

def PgP (toks : List Tok) (bp : Nat) (lv : Value) (w : World) (r : Except (Int × Nat) (List Cl)) (e : Ending) (w' : World) : Prop :=
  match r with
  | .error (er, a) => RFault er a bp lv (.slice none 0 0) 0 w e w'
  | .ok _ => ∃ (a : Option Addr) (n c : Nat) (vv' : Value) (st' : St) (vbs' : List Nat), e = .returned (.slice a n c) ∧ RIn w' bp toks lv vv' st'.1 0 st'.2 vbs' ∧ (tk toks st'.1).k = 101 ∧ Fr bp (.slice none 0 0) vv' w w'

theorem PgP.errI {toks : List Tok} {bp : Nat} {lv : Value} {w : World} {r : Except (Int × Nat) (List Cl)} {er : Int} {a : Nat} {e : Ending} {w' : World} (hr : r = .error (er, a)) (h : RFault er a bp lv (.slice none 0 0) 0 w e w') : PgP toks bp lv w r e w' := by subst hr; exact h
theorem PgP.okI {toks : List Tok} {bp : Nat} {lv : Value} {w : World} {r : Except (Int × Nat) (List Cl)} {l : List Cl} {w' : World} {a : Option Addr} {n c : Nat} {vv' : Value} {st' : St} {vbs' : List Nat} (hr : r = .ok l) (h1 : RIn w' bp toks lv vv' st'.1 0 st'.2 vbs') (h2 : (tk toks st'.1).k = 101) (h3 : Fr bp (.slice none 0 0) vv' w w') : PgP toks bp lv w r (.returned (.slice a n c)) w' := by
  subst hr; exact ⟨a, n, c, vv', st', vbs', rfl, h1, h2, h3⟩

theorem Tryz.infoClause : (Tryz.prog.info? 275).map (fun i => (i.zero, i.size, i.bytes)) = some (some (.agg clZero), 4, 80) := by kernel_rfl
theorem Tryz.underlyingClauses : Tryz.prog.underlying 171 = some (.slice 275) := by kernel_rfl

theorem Fr.of_nil {bp : Nat} {v1 v2 : Value} {a b : World} (h : Fr bp (.slice none 0 0) v2 a b) : Fr bp v1 v2 a b :=
  ⟨h.os, h.tape, h.output, h.size, fun x hx h1 _ => h.block x hx h1 (by simp [Value.ownBlock]), fun x e => by
    rcases h.vnew x e with q | q
    · simp [Value.ownBlock] at q
    · exact .inr q⟩

structure PgOn (toks : List Tok) (bp : Nat) (lv : Value) (cl : Nat → R Cl) (total : Except (Int × Nat) (List Cl)) (w : World) (v : Value) (wr : World) (acc : List Cl) (cs : List Value) (st1 : St) (vv1 : Value) (vbs1 : List Nat) : Prop where
  own : wr.ownsRow w.heap.size 275 4 v acc.length cs
  rin : RIn wr bp toks lv vv1 st1.1 0 st1.2 vbs1
  fr : Fr bp (.slice none 0 0) vv1 w wr
  small : acc.length ≤ 40
  eq : progOf toks cl (41 - acc.length) acc st1.1 = total

/-- behind an append to a row of another type than the reader's -/
theorem row_growT {w w0 w2 : World} {bp : Nat} {toks : List Tok} {lv vv : Value} {i : Nat} {d : Int} {vars : List ByteArray} {vbs : List Nat} {v : Value} {o : Obj} {us : List Value} {m sz : Nat} {T : TypeId} (h : RIn w bp toks lv vv i d vars vbs) (hown : w.ownsRow w0.heap.size T sz v m us)
    (h1 : T ≠ 228) (h2 : T ≠ 231) (h3 : T ≠ 267) (h4 : T ≠ 321) (hg : (w.alloc o).grownBy w2 v.ownBlock) (hw : w0.heap.size ≤ w.heap.size) :
    RIn w2 bp toks lv vv i d vars vbs ∧ (∀ vv0, Fr bp vv0 vv w0 w → Fr bp vv0 vv w0 w2) := by
  have hblk : ∀ b, v.ownBlock = some b → w0.heap.size ≤ b ∧ ∃ cs, w.heap[b]? = some (.cells cs T (0, 0)) := fun b hb => by
    rcases hown.2 with ⟨hl, _⟩ | ⟨g, cap, cur, rfl, r1, r2, _⟩
    · rw [hl] at hb; cases hb
    · cases hb; exact ⟨r1, cur, r2⟩
  have hkeep : ∀ b, b < w.heap.size → v.ownBlock ≠ some b → w2.heap[b]? = w.heap[b]? := fun b hb hv => by
    rw [hg.block b (by simp; omega) (fun e => hv e.symm), Below.heap_alloc _ _ _ hb]
  have hnv : ∀ b, (b = bp ∨ lv.ownBlock = some b ∨ vv.ownBlock = some b ∨ b ∈ vbs) → v.ownBlock ≠ some b := fun b e hv => by
    obtain ⟨_, cs, hcs⟩ := hblk b hv
    exact h.no_T hcs h1 h2 h3 h4 e
  refine ⟨h.keep fun b e => hkeep b (h.blt b e) (hnv b e), fun vv0 hf => ?_⟩
  refine ⟨hg.os.trans hf.os, hg.tape.trans hf.tape, hg.output.trans hf.output, by have := hg.size; simp at this; omega, fun b hb1 q1 q2 => ?_, hf.vnew⟩
  rw [hkeep b (by omega) (fun e => by have := (hblk b e).1; omega)]
  exact hf.block b hb1 q1 q2

theorem cells4n (w : World) (x0 x1 x2 x3 : Value) (T : TypeId) : ∀ j u, [x0, x1, x2, x3][j]? = some u → (w.alloc (.cells #[x0, x1, x2, x3] T)).cell? ((⟨w.heap.size, 0, none⟩ : Addr).add j) = some u := by
  intro j u h
  have hadd : (⟨w.heap.size, 0, none⟩ : Addr).add j = ⟨w.heap.size, j, none⟩ := by unfold Addr.add; split <;> simp_all
  rw [hadd, cell_of_block (heap_alloc_new w _)]
  simpa using h

set_option maxRecDepth 100000 in
set_option maxHeartbeats 2000000 in
theorem program_c {toks : List Tok} (hg : GoodToks toks) (ht : TTs toks) {cl : Nat → R Cl}
    (HC : ∀ (w : World) (bp : Nat) (lv vv : Value) (st : St) (vbs : List Nat), RIn w bp toks lv vv st.1 0 st.2 vbs → Calls Tryz.prog 145 #[ptrV bp] w fun e w' => ClP toks bp lv w (cl st.1) e w')
    (w : World) (bp : Nat) (lv : Value) (h : RIn w bp toks lv (.slice none 0 0) 0 0 [] []) :
    Calls Tryz.prog 113 #[ptrV bp] w fun e w' => PgP toks bp lv w (progOf toks cl 41 [] 0) e w' := by
  have HC' := hide HC
  obtain ⟨total, htot⟩ : ∃ t, progOf toks cl 41 [] 0 = t := ⟨_, rfl⟩
  rw [htot]
  have HT := hide htot
  clear htot HC
  have ff0 := tok_f0
  have ff2 := tok_f2
  have HF := hide newFault_c
  obtain ⟨i0, hi, hz0, hz1, hz2⟩ := info_parts Tryz.infoClause
  unfold ptrV at *
  go_enter Tryz.func113, Tryz.ntmps113
  go_upto_block 0 with fail
  go_cut [3] (fun v wx => ∃ (a : Option Addr) (n c : Nat) (acc : List Cl) (vv1 : Value) (st1 : St) (vbs1 : List Nat), v = .slice a n c ∧ total = .ok acc ∧ RIn wx bp toks lv vv1 st1.1 0 st1.2 vbs1 ∧ (tk toks st1.1).k = 101 ∧ Fr bp (.slice none 0 0) vv1 w wx)
  case first =>
    go_wp2_with fail
    go_loopg [3] 42 (fun g v wr => ∃ acc cs st1 vv1 vbs1, PgOn toks bp lv cl total w v wr acc cs st1 vv1 vbs1 ∧ 41 - acc.length < g)
    case atStart => exact ⟨[], [], (0, []), _, [], ⟨World.ownsRow_nil _ _ _ _, h, Fr.refl _ _ _, by simp, HT.out⟩, by simp⟩
    case round =>
      obtain ⟨acc, cs, st1, vv1, vbs1, hO, hgk⟩ := hrel
      obtain ⟨ao, cap, hv⟩ := row_form hO.own
      subst hv
      have hsm := hO.small
      have HN := hide (now_c hO.rin hg)
      have hke := (ht st1.1).kC_end
      have heq := hO.eq
      rw [prog_one toks cl acc.length hsm acc st1.1] at heq
      obtain ⟨t, hT⟩ : ∃ t, t = tk toks st1.1 := ⟨_, rfl⟩
      rw [← hT] at HN hke heq
      have HTK := hide hT
      clear hT
      unfold tokVC tokB ptrV at HN
      have r1 := (hO.rin.alloc (tokB t)).drew
      have f1 := ((Fr.refl bp vv1 wr).alloc (tokB t)).drew
      have hBt : Below wr.heap.size wr (wr.alloc (tokB t)).drew := ((Below.refl _ _).alloc (Nat.le_refl _) _).drew
      unfold tokB at r1 f1 hBt
      by_cases hk : t.k = 101
      · have hk4 : kC t.k = 4 := hke.2 hk
        have hk5 : (kC t.k == 4) = true := by rw [hk4]; rfl
        rw [if_pos hk] at heq
        have HEQ := hide heq.symm
        have HKK : Hid ((tk toks st1.1).k = 101) := by rw [Hid, ← HTK.out]; exact hk
        clear heq hke hk hk4
        go_wp2_with (go_at_call 123; refine HN.out.mono ?_; rintro e w2 ⟨rfl, rfl⟩)
        go_meet
        case rel => exact ⟨_, _, _, acc, vv1, st1, vbs1, rfl, HEQ.out, r1, HKK.out, hO.fr.trans f1⟩
      · have hk4 : ¬ kC t.k = 4 := fun e => hk (hke.1 e)
        have hk5 : (kC t.k == 4) = false := by simpa using hk4
        rw [if_neg hk] at heq
        clear hke hk hk4
        by_cases h40 : acc.length = 40
        · rw [if_pos h40] at heq
          have HEQ := hide heq.symm
          have h40' : ((acc.length : Int) == 40) = true := by rw [h40]; rfl
          have HN2 := hide (now_c r1 hg)
          rw [← HTK.out] at HN2
          unfold tokVC tokB ptrV at HN2
          have r2 := (r1.alloc (tokB t)).drew
          have f2 := (f1.alloc (tokB t)).drew
          unfold tokB at r2 f2
          clear heq h40
          go_wp2_with (go_at_call 123; refine HN.out.mono ?_; rintro e w2 ⟨rfl, rfl⟩; clear HN)
          refine HN2.out.mono ?_
          rintro e w3 ⟨rfl, rfl⟩
          go_wp2_with (go_at_call 121; refine (HF.out _ _ _).mono ?_; rintro e w7 ⟨g, hg2, rfl, hcell, hB7⟩)
          exact ⟨rfl, .errI HEQ.out ((r2.faulted hg2 hcell hB7).after (hO.fr.trans f2))⟩
        · rw [if_neg h40] at heq
          have h40' : ((acc.length : Int) == 40) = false := by simpa using (show ¬ (acc.length : Int) = 40 by omega)
          have HCl := hide (HC'.out _ _ _ _ _ _ r1)
          cases hr : cl st1.1 with
          | error p =>
            obtain ⟨er, a⟩ := p
            rw [hr] at heq HCl
            have HEQ : Hid (total = .error (er, a)) := heq.symm
            have HCl' : Hid (Calls Tryz.prog 145 #[.pointer (some ⟨bp, 0, none⟩)] _ fun e w' => RFault er a bp lv (.slice none 0 0) 0 _ e w') := HCl.out
            clear heq hr HCl
            go_wp2_with (first | (go_at_call 123; refine HN.out.mono ?_; rintro e w2 ⟨rfl, rfl⟩) | (go_at_call 145; refine HCl'.out.mono ?_; rintro e w3 hF; have hF' := hF; obtain ⟨g, vv', i', h1, rfl, h3, h4, h5⟩ := hF))
            exact ⟨rfl, .errI HEQ.out ⟨g, vv', i', Nat.le_trans (hO.fr.trans f1).size h1, rfl, h3, (hO.fr.trans f1).trans h4.of_nil, h5⟩⟩
          | ok p =>
            obtain ⟨c, s⟩ := p
            rw [hr] at heq HCl
            have HEQ : Hid (progOf toks cl (40 - acc.length) (acc ++ [c]) s.1 = total) := heq
            have HCl' : Hid (Calls Tryz.prog 145 #[.pointer (some ⟨bp, 0, none⟩)] _ fun e w' => ∃ (n : ByteArray) (a : Option Addr) (k c : Nat) (t : TypeId) (v : Value) (va : Option Addr) (vn vc : Nat) (vv' : Value) (vbs' : List Nat), e = .returned (.agg #[.string n, .slice a k c, .iface t v, .slice va vn vc]) ∧ RIn w' bp toks lv vv' s.1 0 s.2 vbs' ∧ Fr bp (.slice none 0 0) vv' _ w') := HCl.out
            clear heq hr HCl
            have hown1 := own_bl hO.own hBt
            have hvbp : (Value.slice ao acc.length cap).ownBlock ≠ some bp := fun e => by have := (hO.own.lt bp e).1; have := h.lt_size; omega
            go_wp2_with (first | (go_at_call 123; refine HN.out.mono ?_; rintro e w2 ⟨rfl, rfl⟩) | (go_at_call 145; refine HCl'.out.mono ?_; rintro e w3 ⟨n3, a3, k3, c3, t3, v3, va3, vn3, vc3, vv3, vbs3, rfl, r3, f3⟩; have hown3 := own_fr hown1 f3 hvbp (vnil _)) | (at_builtin; refine wpList_append_own2 rfl _ _ 171 rfl w.heap.size 275 i0 (.agg clZero) 4 80 Tryz.underlyingClauses hi hz0 hz1 hz2 rfl (by decide) _ _ _ rfl (hown3.alloc _) ⟨w3.heap.size, 0, none⟩ 1 1 [.string n3, .slice a3 k3 c3, .iface t3 v3, .slice va3 vn3 vc3] rfl rfl ?c1 ?c2 ?c3 ?c4 ?c5 ?_) | go_in)
            case c1 => exact cells4n _ _ _ _ _ _
            case c2 => intro u hu; simp only [List.mem_cons, List.not_mem_nil, or_false] at hu; rcases hu with rfl | rfl | rfl | rfl <;> rfl
            case c3 => unfold maxLen; omega
            case c4 => omega
            case c5 => have := (hO.fr.trans f1).size; have := f3.size; simp; omega
            intro v' w5 ho hgr hnw
            have hw3 := ((hO.fr.trans f1).trans (v2 := vv3) f3.of_nil)
            obtain ⟨k1, k3'⟩ := row_growT (w0 := w) r3 hown3 (by decide) (by decide) (by decide) (by decide) hgr hw3.size
            have f5 := k3' _ hw3
            have HREL : Hid (∃ acc cs st1 vv1 vbs1, PgOn toks bp lv cl total w v' w5 acc cs st1 vv1 vbs1 ∧ 41 - acc.length < gk - 1) :=
              ⟨acc ++ [c], _, s, vv3, vbs3, ⟨by simpa using ho, k1, f5, by simp; omega, by rw [show 41 - (acc ++ [c]).length = 40 - acc.length by simp]; exact HEQ.out⟩, by simp; omega⟩
            clear hnw hgr ho k3'
            go_wp2_with fail
            go_roundg (gk - 1)
            case measure => omega
            case rel => exact HREL.out
  case rest =>
    obtain ⟨a, n, c, acc, vv1, st1, vbs1, rfl, htt, r1, hk1, f1⟩ := hcut
    have HE := hide htt
    clear htt
    go_wp2_with fail
    go_ret
    exact .okI HE.out r1 hk1 f1

end Go.Proofs.YtdigbgbmfjggnaaGreatDoor

namespace Go.Proofs.YtdigbgbmfjggnaaGreatDoor
open Go.RowKit

/-! The lexer once more, where less is known of the variables. -/

set_option maxRecDepth 100000 in
set_option maxHeartbeats 2000000 in
theorem split_s (s : ByteArray) (w : World) (hs : s.size ≤ 2000) (hsg : SignsIn w) (hng : 1 < w.heap.size) :
    Calls Tryz.prog 122 #[.string s] w fun e w' => SplitPost s w e w' := by
  obtain ⟨i0, hi, hz0, hz1, hz2⟩ := info_parts Tryz.infoTokC
  have HBl := hide blank_c
  have HWB := hide wordByte_c
  have HFW := hide firstWord_c
  have HWK := hide wordKind_c
  have HPt := hide isPoint_c
  have HNF := hide newFault_c
  go_enter Tryz.func122, Tryz.ntmps122
  go_wp2
  go_step3
  go_wp2
  go_step3
  go_wp2
  go_loopg [3, 4] s.size (fun g v i wr => splitRel s w g v i wr)
  case atStart => exact ⟨0, s.size, [], by omega, rfl, by omega, rfl, Nat.le_refl _, World.ownsRow_nil _ _ _ _, Below.refl _ _⟩
  case round =>
    obtain ⟨k, f, acc, hkg, rfl, hf, hgo, hal, hown, hbel⟩ := hrel
    have HG := hide hgo
    clear hgo
    have hk : k ≤ s.size := by omega
    by_cases hlt : k < s.size
    · obtain ⟨f, rfl⟩ : ∃ g, f = g + 1 := ⟨f - 1, by omega⟩
      go_upto_region 5 with fail
      obtain ⟨R, hR⟩ : ∃ R, R = s.extract k s.size := ⟨_, rfl⟩
      rw [← hR]
      have hRe : R = restA s k := hR
      have hRs : R.size = s.size - k := by rw [hRe, restA_size]
      have hR0 : 0 < R.size := by omega
      have hRg : R[0] = s[k] := by subst hRe; exact restA_get s k 0 hlt
      have hRf := hide (restA_front s k hk)
      have hRp := hide (restA_point s k hlt)
      have hRx := hide (hasPrefix_hasAt s k hk)
      rw [← hRe] at hRf hRp hRx
      have hws := hbel.size
      have HRe := hide hRe
      clear hR hRe
      by_cases hb : blankB (R[0].toNat : Int) = true
      · have HG' : Hid (lexGo s f (k + 1) acc = lexS s) := by rw [← lexGo_blank hlt (by rw [← hRg]; exact (blankB_iff _).1 hb)]; exact HG.out
        clear hRf hRp hRx hRg
        go_wp2_with (first | (go_at_call 151; refine (HBl.out _ _).mono ?_; rintro e w' ⟨rfl, rfl⟩))
        go_roundg (gk - 1)
        case measure => omega
        case rel => exact ⟨k + 1, f, acc, by omega, by go_num, by omega, HG'.out, by omega, hown, hbel⟩
      · have HB : Hid (¬ (s[k] = 32 ∨ s[k] = 10)) := by intro h; rw [← hRg] at h; exact hb ((blankB_iff _).2 h)
        by_cases hwb : wordB (R[0].toNat : Int) = true
        · have hks : k < wordEnd s k := (lex_word_iff s k hlt).2 (by rw [← hRg]; exact hwb)
          have hE2 := wordEnd_le s k hk
          obtain ⟨E, hE⟩ : ∃ E, E = wordEnd s k := ⟨_, rfl⟩
          obtain ⟨F, hF⟩ : ∃ F, F = frontW R := ⟨_, rfl⟩
          have hFe : F = s.extract k E := by rw [hF, hRf.out, hE]
          have hFs : F.size = E - k := by rw [hFe]; simp; omega
          have hF0 : 0 < F.size := by omega
          have hFb : wordB (F[0].toNat : Int) = true := by
            have : F[0] = s[k] := by subst hFe; simp [ByteArray.getElem_extract]
            rw [this, ← hRg]; exact hwb
          have hFz : F.size ≤ 32768 := by omega
          have HFW' : Hid (∀ w, Calls Tryz.prog 153 #[.string R] w fun e w' => e = .returned (.string F) ∧ Below w.heap.size w w') := fun w => by rw [hF]; exact HFW.out R w (by omega)
          have HWK' := hide (fun (a : Int) (w : World) => HWK.out F a w hFz hF0 hFb)
          rw [← hE] at hks hE2
          by_cases hwk : wordK F.data.toList = 0
          · have HR : Hid (lexS s = .error k) := by unfold Hid; rw [← HG.out]; exact lexGo_badword hlt HB.out (by rw [← hE]; exact hks) (by rw [← hE, ← hFe]; exact hwk)
            have HWK2 : Hid (∀ (a : Int) (w : World), Calls Tryz.prog 154 #[.string F, .int .i64 a] w fun e w' => Below w.heap.size w w' ∧ FaultAt 2 a w e w') := fun a w => (HWK'.out a w).mono fun e w' h => ⟨h.1, by have := h.2; rwa [if_pos hwk] at this⟩
            clear hwk hF hFe hRf hRp hRx hRg hFb HWK' HWK HFW HG
            go_wp2_with (first | (go_at_call 151; refine (HBl.out _ _).mono ?_; rintro e w' ⟨rfl, rfl⟩) | (go_at_call 152; refine (HWB.out _ _).mono ?_; rintro e w' ⟨rfl, rfl⟩) | (go_at_call 153; refine (HFW'.out _).mono ?_; rintro e w1 ⟨rfl, hB1⟩) | (go_at_call 154; refine (HWK2.out _ _).mono ?_; rintro e w2 ⟨hB2, g, hg, rfl, hcell⟩))
            have hz1' := hB1.size
            exact ⟨rfl, .err HR.out (below_chain (below_chain hbel hB1) hB2) ⟨g, by omega, rfl, hcell⟩⟩
          · have HG' : Hid (lexGo s f E (acc ++ [⟨wordK F.data.toList, F, k⟩]) = lexS s) := by
              have h := lexGo_word (f := f) (acc := acc) hlt HB.out (by rw [← hE]; exact hks) (by rw [← hE, ← hFe]; exact hwk)
              rw [← hE, ← hFe] at h
              unfold Hid; rw [← h]; exact HG.out
            have HWK2 : Hid (∀ (a : Int) (w : World), Calls Tryz.prog 154 #[.string F, .int .i64 a] w fun e w' => Below w.heap.size w w' ∧ e = .returned (.int .i64 (kC (wordK F.data.toList)))) := fun a w => (HWK'.out a w).mono fun e w' h => ⟨h.1, by have := h.2; rwa [if_neg hwk] at this⟩
            obtain ⟨KK, hKK⟩ : ∃ K, K = wordK F.data.toList := ⟨_, rfl⟩
            rw [← hKK] at HG' HWK2
            obtain ⟨KC, hKC⟩ : ∃ K, K = kC KK := ⟨_, rfl⟩
            rw [← hKC] at HWK2
            have HKC := hide hKC
            clear hwk hF hFe hRf hRp hRx hRg hFb HWK' HWK HFW HG hKK hKC
            go_wp2_with (first | (go_at_call 151; refine (HBl.out _ _).mono ?_; rintro e w' ⟨rfl, rfl⟩) | (go_at_call 152; refine (HWB.out _ _).mono ?_; rintro e w' ⟨rfl, rfl⟩) | (go_at_call 153; refine (HFW'.out _).mono ?_; rintro e w1 ⟨rfl, hB1⟩) | (go_at_call 154; refine (HWK2.out _ _).mono ?_; rintro e w2 ⟨hB2, rfl⟩; have hown2 := own_below (own_below hown hB1) hB2; have hbel2 := below_chain (below_chain hbel hB1) hB2; have hws2 := hbel2.size; clear hown hbel hB1 hB2) | (at_builtin; refine wpList_append_own _ rfl _ _ 224 rfl w.heap.size 231 i0 (.agg #[.int .i64 0, .string ByteArray.empty, .int .i64 0]) 3 32 Tryz.underlyingToksC hi hz0 hz1 hz2 rfl (by decide) _ _ _ rfl (hown2.alloc _) ⟨w2.heap.size, 0, none⟩ 1 1 [.int .i64 KC, .string F, .int .i64 k] rfl rfl ?c1 ?c2 ?c3 ?c4 ?c5 ?_))
            case c1 => exact cells3 _ _ _ _ _
            case c2 => intro u hu; simp at hu; rcases hu with rfl | rfl | rfl <;> rfl
            case c3 => unfold maxLen; omega
            case c4 => omega
            case c5 => simp; omega
            intro v' w9 hown' hgrow _
            have hb1 := grow_below hbel2 hown2 hgrow (Nat.le_refl _)
            clear hown2 hgrow hbel2
            go_wp2_with fail
            go_roundg (gk - (E - k))
            case measure => omega
            case rel =>
              refine ⟨E, f, _, by omega, by go_num, by omega, HG'.out, by simp; omega, ?_, hb1⟩
              rw [tokC_append, ← HKC.out]; simpa using hown'
        · have hkE' : Hid (¬ k < wordEnd s k) := by intro h; rw [lex_word_iff s k hlt, ← hRg] at h; exact hwb h
          by_cases hpt : pointAt s k = true
          · have hsa : signAt s k = [46] := by unfold signAt firstOf; rw [if_pos hpt]
            have HG' : Hid (lexGo s f (k + 1) (acc ++ [⟨115, B [46], k⟩]) = lexS s) := by
              have h := lexGo_sign (f := f) (acc := acc) hlt HB.out hkE'.out (by rw [hsa]; simp)
              rw [hsa] at h
              unfold Hid; rw [← HG.out, h]; rfl
            have HPt' : Hid (∀ w, Calls Tryz.prog 155 #[.string R] w fun e w' => e = .returned (.bool true) ∧ w' = w) := fun w => by
              have := HPt.out R w hR0; rwa [hRp.out, hpt] at this
            clear hRf hRp hRx hRg HPt hsa hpt HG
            go_wp2_with (first | (go_at_call 151; refine (HBl.out _ _).mono ?_; rintro e w' ⟨rfl, h9⟩; rw [h9]; clear h9) | (go_at_call 152; refine (HWB.out _ _).mono ?_; rintro e w' ⟨rfl, h9⟩; rw [h9]; clear h9) | (go_at_call 155; refine (HPt'.out _).mono ?_; rintro e w' ⟨rfl, h9⟩; rw [h9]; clear h9) | (at_builtin; refine wpList_append_own _ rfl _ _ 224 rfl w.heap.size 231 i0 (.agg #[.int .i64 0, .string ByteArray.empty, .int .i64 0]) 3 32 Tryz.underlyingToksC hi hz0 hz1 hz2 rfl (by decide) _ _ _ rfl (hown.alloc _) ⟨wr.heap.size, 0, none⟩ 1 1 [.int .i64 3, .string ⟨#[46]⟩, .int .i64 k] rfl rfl ?c1 ?c2 ?c3 ?c4 ?c5 ?_))
            case c1 => exact cells3 _ _ _ _ _
            case c2 => intro u hu; simp at hu; rcases hu with rfl | rfl | rfl <;> rfl
            case c3 => unfold maxLen; omega
            case c4 => omega
            case c5 => simp; omega
            intro v' w9 hown' hgrow _
            have hb1 := grow_below hbel hown hgrow (Nat.le_refl _)
            clear hown hgrow hbel
            go_wp2_with fail
            go_roundg (gk - 1)
            case measure => omega
            case rel =>
              refine ⟨k + 1, f, _, by omega, by go_num, by omega, HG'.out, by simp; omega, ?_, hb1⟩
              rw [tokC_append, List.length_append]; exact hown'
          · have hpf : pointAt s k = false := by simpa using hpt
            have HPt' : Hid (∀ w, Calls Tryz.prog 155 #[.string R] w fun e w' => e = .returned (.bool false) ∧ w' = w) := fun w => by
              have := HPt.out R w hR0; rwa [hRp.out, hpf] at this
            have hf0 : Hid (firstOf s k (signL.take 0) = []) := by rw [Hid, firstOf_nil, hpf]; rfl
            have hsw := hsg.below hbel hng
            clear hRf hRp hRg HPt hpt hpf
            have HHP : Hid (∀ x w, Calls Tryz.prog 156 #[.string R, .string (B x)] w fun e w' => e = .returned (.bool (hasAt s k x)) ∧ w' = w) := fun x w => by
              rw [← hRx.out x]; exact Tryz.strings_HasPrefix R (B x) w
            obtain ⟨SC, hSC⟩ : ∃ SC, SC = signCells := ⟨_, rfl⟩
            have HSC : Hid (signCells.toList.toArray = SC) := by rw [Hid, hSC]
            have hscs : SC.size = 23 := by rw [hSC]; rfl
            have hscg : ∀ m, m < 23 → SC[m]? = some (.string (B (signL.getD m []))) := fun m hm => by
              rw [hSC, signCells, List.getElem?_toArray, List.getElem?_map, signGet m hm, Option.map_some]
            clear hSC hRx
            go_wp2_with (first | (go_at_call 151; refine (HBl.out _ _).mono ?_; rintro e w' ⟨rfl, h9⟩; rw [h9]; clear h9) | (go_at_call 152; refine (HWB.out _ _).mono ?_; rintro e w' ⟨rfl, h9⟩; rw [h9]; clear h9) | (go_at_call 155; refine (HPt'.out _).mono ?_; rintro e w' ⟨rfl, h9⟩; rw [h9]; clear h9) | (refine wpList_load_mid rfl 283 (.global 1) rfl 1 0 rfl signCells.toList _ hsw Tryz.underlyingSigns rfl Tryz.sizeSigns ?_; rw [HSC.out]))
            obtain ⟨V3, hV3⟩ : ∃ V, V = u3 := ⟨u3, rfl⟩
            subst hV3
            go_loopg [3, 4, 52] 23 (fun g v pl i wx => wr = wx ∧ v = V3 ∧ pl = .int .i64 k ∧ ∃ m : Nat, m + g = 23 ∧ i = .int .i64 m ∧ firstOf s k (signL.take m) = [])
            case atStart => exact ⟨rfl, rfl, rfl, 0, rfl, rfl, hf0.out⟩
            case round =>
              obtain ⟨rfl, rfl, rfl, m, hm, rfl, hemp⟩ := hrel
              have HEMP := hide hemp
              clear hemp
              by_cases hm23 : m < 23
              · have hcell := hscg m hm23
                have hXl := sign_len m
                obtain ⟨X, hX⟩ : ∃ X, X = signL.getD m [] := ⟨_, rfl⟩
                rw [← hX] at hcell hXl
                have HX := hide hX
                clear hX hscg
                have hix := sign_index m _ SC hm23 hcell
                have HHX := hide (HHP.out X)
                clear HHP
                cases hh : hasAt s k X with
                | true =>
                  rw [hh] at HHX
                  have hfo : firstOf s k (signL.take (m + 1)) = X := by rw [firstOf_hit hm23 HEMP.out (by rw [← HX.out]; exact hh), HX.out]
                  have hX0 : X ≠ [] := by rw [HX.out]; exact sign_ne _ (List.mem_of_getElem? (signGet m hm23))
                  have hsa : signAt s k = X := by rw [firstOf_done (by rw [hfo]; exact hX0), hfo]
                  have HG' : Hid (lexGo s f (k + X.length) (acc ++ [⟨115, B X, k⟩]) = lexS s) := by
                    have h := lexGo_sign (f := f) (acc := acc) hlt HB.out hkE'.out (by rw [hsa]; exact hX0)
                    rw [hsa] at h
                    unfold Hid; rw [← HG.out, h]
                  have hfit : k + X.length ≤ s.size := by
                    have h := signAt_fits s k hlt
                    rwa [hsa, B_size] at h
                  have hXs := B_size X
                  have hXp : 0 < X.length := List.length_pos_iff.2 hX0
                  clear hh hfo hX0 hsa HG HEMP
                  go_wp2_with (first | (go_at_call 156; refine (HHX.out _).mono ?_; rintro e w' ⟨rfl, h9⟩; rw [h9]; clear h9) | (at_builtin; refine wpList_append_own _ rfl _ _ 224 rfl w.heap.size 231 i0 (.agg #[.int .i64 0, .string ByteArray.empty, .int .i64 0]) 3 32 Tryz.underlyingToksC hi hz0 hz1 hz2 rfl (by decide) _ _ _ rfl (hown.alloc _) _ 1 1 [.int .i64 3, .string (B X), .int .i64 k] rfl rfl ?c1 ?c2 ?c3 ?c4 ?c5 ?_))
                  case c1 => exact cells3 _ _ _ _ _
                  case c2 => intro u hu; simp at hu; rcases hu with rfl | rfl | rfl <;> rfl
                  case c3 => unfold maxLen; omega
                  case c4 => omega
                  case c5 => simp; omega
                  intro v' w9 hown' hgrow _
                  have hb1 := grow_below hbel hown hgrow (Nat.le_refl _)
                  clear hown hgrow hbel
                  go_wp2_with fail
                  go_roundg (s.size - (k + X.length))
                  case measure => omega
                  case rel =>
                    refine ⟨k + X.length, f, _, by omega, by go_num, by omega, HG'.out, by simp; omega, ?_, hb1⟩
                    rw [tokC_append, List.length_append]; exact hown'
                | false =>
                  rw [hh] at HHX
                  have HE' : Hid (firstOf s k (signL.take (m + 1)) = []) := firstOf_miss hm23 HEMP.out (by rw [← HX.out]; exact hh)
                  clear hh HG
                  go_wp2_with (first | (go_at_call 156; refine (HHX.out _).mono ?_; rintro e w' ⟨rfl, h9⟩; rw [h9]; clear h9))
                  go_roundg (23 - (m + 1))
                  case measure => omega
                  case rel => exact ⟨rfl, rfl, rfl, m + 1, by omega, by go_num, HE'.out⟩
              · have hm3 : m = 23 := by omega
                subst hm3
                have HR : Hid (lexS s = .error k) := by unfold Hid; rw [← HG.out]; exact lexGo_nosign hlt HB.out hkE'.out HEMP.out
                go_wp2_with (first | (go_at_call 121; refine (HNF.out _ _ _).mono ?_; rintro e w2 ⟨g, hg, rfl, hcell, hB2⟩))
                exact ⟨rfl, .err HR.out (below_chain hbel hB2) ⟨g, by omega, rfl, hcell⟩⟩
    · have hkk : k = s.size := by omega
      have HO : Hid (lexS s = .ok acc) := by unfold Hid; rw [← HG.out]; exact lexGo_end hlt
      have hws := hbel.size
      go_wp2_with (first | (at_builtin; refine wpList_append_own _ rfl _ _ 224 rfl w.heap.size 231 i0 (.agg #[.int .i64 0, .string ByteArray.empty, .int .i64 0]) 3 32 Tryz.underlyingToksC hi hz0 hz1 hz2 rfl (by decide) _ _ _ rfl (hown.alloc _) ⟨wr.heap.size, 0, none⟩ 1 1 [.int .i64 4, .string ⟨#[]⟩, .int .i64 s.size] rfl rfl ?c1 ?c2 ?c3 ?c4 ?c5 ?_))
      case c1 => exact cells3 _ _ _ _ _
      case c2 => intro u hu; simp at hu; rcases hu with rfl | rfl | rfl <;> rfl
      case c3 => unfold maxLen; omega
      case c4 => omega
      case c5 => simp; omega
      intro v' w9 hown' hgrow _
      have hb1 := grow_below hbel hown hgrow (Nat.le_refl _)
      clear hown hgrow hbel
      go_wp2_with fail
      try rw [Exit.noGoto_ret]
      go_ret
      refine .ok HO.out hb1 ?_
      rw [withEnd, tokC_append, List.length_append]
      exact hown'

theorem SignsIn.allocS {w : World} (h : SignsIn w) (hng : 1 < w.heap.size) (o : Obj) : SignsIn (w.alloc o) := h.below ((Below.refl w.heap.size w).alloc (Nat.le_refl _) o) hng

end Go.Proofs.YtdigbgbmfjggnaaGreatDoor

namespace Go.Proofs.YtdigbgbmfjggnaaGreatDoor
open Go.RowKit

/-! A whole text read as a program; plain.Load. -/

set_option maxRecDepth 100000 in
set_option maxHeartbeats 1000000 in
theorem catch_faultL (p g : Nat) (w : World) (hc : w.heap[p]? = some (.cells #[.nilIface] 77 (0, 0))) :
    CallsD Tryz.prog 144 #[.pointer (some ⟨p, 0, none⟩)] (.panicking [{ v := faultV g, recovered := false }]) w fun e u' w' =>
      e = .returned (.tuple #[]) ∧ u' = .panicking [{ v := faultV g, recovered := true }] ∧ w' = (w.setCell ⟨p, 0, none⟩ (.iface 147 (ptrV g))).alloc (.cells #[ptrV g] 222) := by
  have hcc : w.cell? ⟨p, 0, none⟩ = some .nilIface := by rw [cell_of_block hc]; rfl
  have hfz := fz_of hc 0
  have hlt : p < w.heap.size := (Array.getElem?_eq_some_iff.1 hc).1
  have hcc' : ∀ o, (w.alloc o).cell? ⟨p, 0, none⟩ = some .nilIface := fun o => cell_alloc1 hcc o
  have hta := Tryz.isFault
  unfold faultV ptrV
  refine callsD_of_wpS Tryz.func144 rfl fun c₀ cs hu => ?_
  apply wpS_seq
  apply wpS_region
  simp [wpOpsS, go_sem, recoverD, hu, Tryz.ntmps144, Exit.thenS]
  refine wpS_of_wp ?_
  go_wp2
  exact ⟨rfl, _, rfl, _, results_none rfl _ _ _, rfl, rfl, rfl⟩

set_option maxRecDepth 100000 in
set_option maxHeartbeats 1000000 in
theorem catch_noneL (p : Nat) (w : World) :
    CallsD Tryz.prog 144 #[.pointer (some ⟨p, 0, none⟩)] .returning w fun e u' w' => e = .returned (.tuple #[]) ∧ u' = .returning ∧ w' = w := by
  refine callsD_of_wpS Tryz.func144 rfl fun c₀ cs hu => ?_
  apply wpS_seq
  apply wpS_region
  simp [wpOpsS, go_sem, recoverD, hu, Tryz.ntmps144, Exit.thenS]
  refine wpS_of_wp ?_
  go_wp2
  refine ⟨rfl, .returning, ?_, _, results_none rfl _ _ _, rfl, rfl, rfl⟩
  rw [← hu]

theorem door_faultL {fn : Func} {tmps : Array Value} {R : Ending → World → Prop} {w : World} {p g : Nat} (hc : w.heap[p]? = some (.cells #[.nilIface] 77 (0, 0)))
    (h : Leaves Tryz.prog fn tmps R [] .returning ((w.setCell ⟨p, 0, none⟩ (.iface 147 (ptrV g))).alloc (.cells #[ptrV g] 222))) :
    Leaves Tryz.prog fn tmps R [{ target := .fn (.func 144) #[.pointer (some ⟨p, 0, none⟩)], args := #[] }] (.panicking [{ v := faultV g, recovered := false }]) w := by
  refine leaves_cons (f := 144) (args := #[.pointer (some ⟨p, 0, none⟩)]) (by simp) (by simp [go_sem]) ?_
  refine (catch_faultL p g w hc).mono ?_
  rintro e u' w'' ⟨rfl, rfl, rfl⟩
  exact h

theorem door_retL {fn : Func} {tmps : Array Value} {R : Ending → World → Prop} {w : World} {p : Nat}
    (h : Leaves Tryz.prog fn tmps R [] .returning w) :
    Leaves Tryz.prog fn tmps R [{ target := .fn (.func 144) #[.pointer (some ⟨p, 0, none⟩)], args := #[] }] .returning w := by
  refine leaves_cons (f := 144) (args := #[.pointer (some ⟨p, 0, none⟩)]) (by simp) (by simp [go_sem]) ?_
  refine (catch_noneL p w).mono ?_
  rintro e u' w'' ⟨rfl, rfl, rfl⟩
  exact h

/-- what a text read as a program answers -/
def LoadC (s : ByteArray) (w : World) (e : Ending) (w' : World) : Prop :=
  Below w.heap.size w w' ∧
  match progS s with
  | .error (er, a) => ∃ g, e = .returned (.tuple #[.slice none 0 0, .iface 147 (ptrV g)]) ∧ w'.heap[g]? = some (atV er a)
  | .ok _ => ∃ (a : Option Addr) (n c : Nat), e = .returned (.tuple #[.slice a n c, .nilIface])

theorem LoadC.err {s : ByteArray} {w w4 : World} {er : Int} {a : Nat} {g : Nat} {fn : Func} (hr : progS s = .error (er, a)) (hB : Below w.heap.size w w4) (hg : w4.heap[g]? = some (atV er a)) (hc : w4.heap[w.heap.size]? = some (.cells #[.nilIface] 77 (0, 0))) (hgn : w.heap.size < g)
    {tmps : Array Value} (hfn : fn.results = #[.tmp 4, .cell 5 77]) (h4 : tmps.getD 4 undef = .slice none 0 0) (h5 : tmps.getD 5 undef = .pointer (some ⟨w.heap.size, 0, none⟩)) :
    Leaves Tryz.prog fn tmps (fun e w' => LoadC s w e w') [{ target := .fn (.func 144) #[.pointer (some ⟨w.heap.size, 0, none⟩)], args := #[] }] (.panicking [{ v := faultV g, recovered := false }]) w4 := by
  refine door_faultL hc ?_
  have hlt : w.heap.size < w4.heap.size := (Array.getElem?_eq_some_iff.1 hc).1
  have hl5 : ((w4.setCell ⟨w.heap.size, 0, none⟩ (.iface 147 (ptrV g))).alloc (.cells #[ptrV g] 222)).heap[w.heap.size]? = some (.cells #[.iface 147 (ptrV g)] 77 (0, 0)) := by
    rw [Below.heap_alloc _ _ _ (by simp [World.setCell]; omega), heap_setCell_same hc]; rfl
  have hc5 : ((w4.setCell ⟨w.heap.size, 0, none⟩ (.iface 147 (ptrV g))).alloc (.cells #[ptrV g] 222)).cell? ⟨w.heap.size, 0, none⟩ = some (.iface 147 (ptrV g)) := by rw [cell_of_block hl5]; rfl
  have h4' : tmps[4]?.getD undef = .slice none 0 0 := by simpa using h4
  have h5' : tmps[5]?.getD undef = .pointer (some ⟨w.heap.size, 0, none⟩) := by simpa using h5
  refine ⟨.tuple #[.slice none 0 0, .iface 147 (ptrV g)], ?_, ?_, ?_⟩
  · simp [results, hfn, h4', h5', go_sem, hc5]
  · exact (hB.setCell (p := ⟨w.heap.size, 0, none⟩) (Nat.le_refl _) _).alloc (by simp [World.setCell]; omega) _
  · rw [hr]
    refine ⟨g, rfl, ?_⟩
    rw [Below.heap_alloc _ _ _ (by have := (Array.getElem?_eq_some_iff.1 hg).1; simp [World.setCell]; omega), Below.heap_setCell _ _ _ _ (show g ≠ w.heap.size by omega)]
    exact hg

set_option maxRecDepth 100000 in
set_option maxHeartbeats 2000000 in
theorem readingL_long_c (s : ByteArray) (w : World) (hs : 2000 < s.size) (hs2 : s.size ≤ 32768) :
    Calls Tryz.prog 112 #[.string s, .func (.func 113) #[] #[]] w fun e w' => LoadC s w e w' := by
  have hmf : ∀ (fn : Fn) (first cap : Array Value) (w : World), (Instr.makeFunc fn first cap).run Tryz.prog w = .ok (.func fn first cap) w := fun _ _ _ _ => rfl
  have HF := hide newFault_c
  have HR : Hid (progS s = .error (1, 0)) := by unfold Hid progS; rw [if_pos hs]
  go_enter_defers Tryz.func112, Tryz.ntmps112
  go_wp2_with (first | (go_at_call 121; refine (HF.out _ _ _).mono ?_; rintro e w2 ⟨g, hg2, rfl, hcell, hB⟩))
  have hb0 := boxed hB
  exact LoadC.err HR.out (below_box hB) hcell hb0 (by simp at hg2; omega) rfl rfl rfl


theorem readingL_end {s : ByteArray} {w w9 : World} {l : List Cl} {a : Option Addr} {n c : Nat} {fn : Func} {tmps : Array Value} {o : Obj} (hr : progS s = .ok l) (hB : Below w.heap.size w w9) (hbx : w9.heap[w.heap.size]? = some (.cells #[.nilIface] 77 (0, 0)))
    (hfn : fn.results = #[.tmp 4, .cell 5 77]) (h4 : tmps.getD 4 undef = .slice a n c) (h5 : tmps.getD 5 undef = .pointer (some ⟨w.heap.size, 0, none⟩)) :
    Leaves Tryz.prog fn tmps (fun e w' => LoadC s w e w') [] .returning ((w9.setCell ⟨w.heap.size, 0, none⟩ .nilIface).alloc o).drew := by
  have hlt : w.heap.size < w9.heap.size := (Array.getElem?_eq_some_iff.1 hbx).1
  have hl5 : ((w9.setCell ⟨w.heap.size, 0, none⟩ .nilIface).alloc o).drew.heap[w.heap.size]? = some (.cells #[.nilIface] 77 (0, 0)) := by
    show ((w9.setCell ⟨w.heap.size, 0, none⟩ .nilIface).alloc o).heap[w.heap.size]? = _
    rw [Below.heap_alloc _ _ _ (by simp [World.setCell]; omega), heap_setCell_same hbx]; rfl
  have hc5 : ((w9.setCell ⟨w.heap.size, 0, none⟩ .nilIface).alloc o).drew.cell? ⟨w.heap.size, 0, none⟩ = some .nilIface := by rw [cell_of_block hl5]; rfl
  have h4' : tmps[4]?.getD undef = .slice a n c := by simpa using h4
  have h5' : tmps[5]?.getD undef = .pointer (some ⟨w.heap.size, 0, none⟩) := by simpa using h5
  generalize hW : ((w9.setCell ⟨w.heap.size, 0, none⟩ .nilIface).alloc o).drew = W at *
  refine ⟨.tuple #[.slice a n c, .nilIface], ?_, ?_, ?_⟩
  · simp [results, hfn, h4', h5', go_sem, hc5]
  · rw [← hW]; exact ((hB.setCell (p := ⟨w.heap.size, 0, none⟩) (Nat.le_refl _) _).alloc (by simp [World.setCell]; omega) _).drew
  · rw [hr]
    exact ⟨_, _, _, rfl⟩

set_option maxRecDepth 100000 in
set_option maxHeartbeats 2000000 in
theorem readingL_c (s : ByteArray) (w : World) (hs : s.size ≤ 2000) (hsg : SignsIn w) (hng : 1 < w.heap.size) :
    Calls Tryz.prog 112 #[.string s, .func (.func 113) #[] #[]] w fun e w' => LoadC s w e w' := by
  have hmf : ∀ (fn : Fn) (first cap : Array Value) (w : World), (Instr.makeFunc fn first cap).run Tryz.prog w = .ok (.func fn first cap) w := fun _ _ _ _ => rfl
  have HS := hide (fun (w' : World) (h1 : SignsIn w') (h2 : 1 < w'.heap.size) => split_s s w' hs h1 h2)
  have ff0 := tok_f0
  have hsa := hide (fun o => hsg.allocS hng o)
  cases hl : lexS s with
  | error p =>
    have HR : Hid (progS s = .error (2, p)) := by unfold Hid progS; rw [if_neg (by omega), hl]
    have HS' : Hid (∀ w', SignsIn w' → 1 < w'.heap.size → Calls Tryz.prog 122 #[.string s] w' fun e w'' => Below w'.heap.size w' w'' ∧ FaultAt 2 p w' e w'') := fun w' h1 h2 => (HS.out w' h1 h2).mono fun e w'' h => by unfold SplitPost at h; rw [hl] at h; exact h
    clear HS hl
    go_enter_defers Tryz.func112, Tryz.ntmps112
    go_wp2_with (first | (go_at_call 122; refine (HS'.out _ (hsa.out _) (by simp; omega)).mono ?_; rintro e w2 ⟨hB, g, hg2, rfl, hcell⟩))
    exact LoadC.err HR.out (below_box hB) hcell (boxed hB) (by simp at hg2; omega) rfl rfl rfl
  | ok l =>
    obtain ⟨toks, htk⟩ : ∃ toks, toks = withEnd s l := ⟨_, rfl⟩
    have hg := good_toks hs hl
    have ht := tts_of hl
    have hn : ∀ i, (tk (withEnd s l) i).t.size ≤ 2000 := fun i => by
      have hl' := lex_names s.size 0 [] l hl (by simp)
      unfold tk
      rw [List.getD_eq_getElem?_getD]
      cases q : (withEnd s l)[i]? with
      | none => simp
      | some t =>
        simp only [Option.getD_some]
        have hm := List.mem_of_getElem? q
        unfold withEnd at hm
        rcases List.mem_append.1 hm with hm | hm
        · have := hl' t hm; omega
        · have := List.mem_singleton.1 hm; subst this; simp
    rw [← htk] at hg ht hn
    have HS' : Hid (∀ w', SignsIn w' → 1 < w'.heap.size → Calls Tryz.prog 122 #[.string s] w' fun e w'' => Below w'.heap.size w' w'' ∧ ∃ v, e = .returned v ∧ w''.ownsRow w'.heap.size 231 3 v toks.length (tokC toks)) := fun w' h1 h2 => (HS.out w' h1 h2).mono fun e w'' h => by unfold SplitPost at h; rw [hl] at h; rw [htk]; exact h
    have HA : AsCallOk := fun w vbs x u Ok h1 h2 => asCall_c h1 h2
    have hex := expr_at_c hg ht hn
    have HE := hide (program_c hg ht (fun w bp lv vv st vbs h => clause_c hg ht (expr_got (prim_got hg hn 8) hn) hex HA (body_at_c hg ht hn HA) w bp lv vv st vbs h))
    obtain ⟨total, htot⟩ : ∃ t, progOf toks (clauseOf toks (exprS toks 8) (bodyS toks 8)) 41 [] 0 = t := ⟨_, rfl⟩
    have hts : progS s = total := by unfold progS; rw [if_neg (by omega), hl]; dsimp only; rw [← htk]; exact htot
    have HE2 : Hid (∀ (w' : World) (bp : Nat) (lv : Value), RIn w' bp toks lv (.slice none 0 0) 0 0 [] [] → Calls Tryz.prog 113 #[ptrV bp] w' fun e w'' => PgP toks bp lv w' total e w'') := fun w' bp lv h' => by rw [← htot]; exact HE.out w' bp lv h'
    clear HS hl htk HE hex HA htot
    cases total with
    | error p =>
      obtain ⟨er, a⟩ := p
      have HR : Hid (progS s = .error (er, a)) := hts
      have HE' : Hid (∀ (w' : World) (bp : Nat) (lv : Value), RIn w' bp toks lv (.slice none 0 0) 0 0 [] [] → Calls Tryz.prog 113 #[ptrV bp] w' fun e w'' => RFault er a bp lv (.slice none 0 0) 0 w' e w'') := HE2.out
      clear HE2 hts
      unfold ptrV at *
      go_enter_defers Tryz.func112, Tryz.ntmps112
      go_wp2_with (first | (go_at_call 122; refine (HS'.out _ (hsa.out _) (by simp; omega)).mono ?_; rintro e w2 ⟨hB, v, rfl, hown⟩; have hR := RIn.start hown hg.pos; obtain ⟨ao, cp, hvf⟩ := row_form hown; subst hvf) | (go_at_call 113; refine (HE'.out _ _ _ hR).mono ?_; rintro e w9 hF; have hF' := hF; obtain ⟨g, vv', i', h1, rfl, h3, h4, h5⟩ := hF))
      have hz := hB.size
      simp at hz
      have hbx := boxed hB
      have hB2 : Below w.heap.size w w2 := below_box hB
      have hFb : Below (w.heap.size + 1) (w2.alloc _) w9 := h4.toBelow (n := w.heap.size + 1) (by simp; omega) (by omega) (fun k e => by cases e)
      refine LoadC.err HR.out ((hB2.alloc (by omega) _).trans (hFb.mono (by omega))) h3 ?_ (by simp at h1; omega) rfl rfl rfl
      rw [hFb.block _ (by omega), Below.heap_alloc _ _ _ (by omega)]
      exact hbx
    | ok cls =>
      have HR : Hid (progS s = .ok cls) := hts
      have HE' : Hid (∀ (w' : World) (bp : Nat) (lv : Value), RIn w' bp toks lv (.slice none 0 0) 0 0 [] [] → Calls Tryz.prog 113 #[ptrV bp] w' fun e w'' => ∃ (a : Option Addr) (n c : Nat) (vv' : Value) (st' : St) (vbs' : List Nat), e = .returned (.slice a n c) ∧ RIn w'' bp toks lv vv' st'.1 0 st'.2 vbs' ∧ (tk toks st'.1).k = 101 ∧ Fr bp (.slice none 0 0) vv' w' w'') := HE2.out
      have HN : Hid (∀ (w' : World) (bp : Nat) (lv vv' : Value) (st : St) (vbs' : List Nat), RIn w' bp toks lv vv' st.1 0 st.2 vbs' → (tk toks st.1).k = 101 → Calls Tryz.prog 123 #[ptrV bp] w' fun e w'' => ∃ (tt : ByteArray) (aa : Nat), e = .returned (.agg #[.int .i64 4, .string tt, .int .i64 aa]) ∧ w'' = (w'.alloc (.cells #[.int .i64 4, .string tt, .int .i64 aa] 231)).drew) := fun w' bp lv vv' st vbs' h' hk => (now_c h' hg).mono fun e w'' hh => by
        have hk4 : kC (tk toks st.1).k = 4 := (ht st.1).kC_end.2 hk
        unfold tokVC tokB at hh
        rw [hk4] at hh
        exact ⟨_, _, hh.1, hh.2⟩
      have HBX := hide (fun (w2 : World) (h : Below (w.alloc (.cells #[.nilIface] 77)).heap.size (w.alloc (.cells #[.nilIface] 77)) w2) (v vv' : Value) (w9 : World) (h4 : Fr w2.heap.size (.slice none 0 0) vv' (w2.alloc (.cells #[v, .int .i64 0, .int .i64 0, .slice none 0 0] 228)) w9) => readBox h v vv' h4)
      clear HE2 hts
      unfold ptrV at *
      go_enter_defers Tryz.func112, Tryz.ntmps112
      go_wp2_with (first | (go_at_call 122; refine (HS'.out _ (hsa.out _) (by simp; omega)).mono ?_; rintro e w2 ⟨hB, v, rfl, hown⟩; have hR := RIn.start hown hg.pos; obtain ⟨ao, cp, hvf⟩ := row_form hown; subst hvf) | (go_at_call 113; refine (HE'.out _ _ _ hR).mono ?_; rintro e w9 ⟨a9, n9, c9, vv9, st9, vbs9, rfl, r2, k9, r4⟩; obtain ⟨hBw, hbx⟩ := HBX.out w2 hB _ _ w9 r4; have hbc : ∀ o, (w9.alloc o).cell? ⟨w.heap.size, 0, none⟩ = some .nilIface := cell_alloc1 (by rw [cell_of_block hbx]; rfl); have hbf : ∀ o, (w9.alloc o).frozen? ⟨w.heap.size, 0, none⟩ = false := fun o => fz_alloc hbx o 0; have hbl : w.heap.size < w9.heap.size := (Array.getElem?_eq_some_iff.1 hbx).1) | (go_at_call 123; refine (HN.out _ _ _ _ _ _ r2 k9).mono ?_; rintro e w10 ⟨tt, aa, rfl, rfl⟩))
      exact door_retL (readingL_end HR.out hBw hbx rfl rfl rfl)

set_option maxHeartbeats 400000 in
theorem syntaxProgram_c (s : ByteArray) (w : World) (hs : s.size ≤ 32768) (hsg : SignsIn w) (hng : 1 < w.heap.size) :
    Calls Tryz.prog 81 #[.string s] w fun e w' => LoadC s w e w' := by
  have HRd : Hid (Calls Tryz.prog 112 #[.string s, .func (.func 113) #[] #[]] w fun e w' => LoadC s w e w') := by
    by_cases h : s.size ≤ 2000
    · exact readingL_c s w h hsg hng
    · exact readingL_long_c s w (by omega) hs
  cases hr : progS s with
  | error p =>
    obtain ⟨er, a⟩ := p
    have HRd' : Hid (Calls Tryz.prog 112 #[.string s, .func (.func 113) #[] #[]] w fun e w' => Below w.heap.size w w' ∧ ∃ g, e = .returned (.tuple #[.slice none 0 0, .iface 147 (ptrV g)]) ∧ w'.heap[g]? = some (atV er a)) := HRd.out.mono fun e w' h => by unfold LoadC at h; rw [hr] at h; exact h
    have HR := hide hr
    clear HRd hr
    go_enter Tryz.func81, Tryz.ntmps81
    go_wp2_with (first | (go_at_call 112; refine HRd'.out.mono ?_; rintro e w1 ⟨hB, g, rfl, hc⟩))
    go_ret2
    exact ⟨hB, by rw [HR.out]; exact ⟨g, rfl, hc⟩⟩
  | ok l =>
    have HRd' : Hid (Calls Tryz.prog 112 #[.string s, .func (.func 113) #[] #[]] w fun e w' => Below w.heap.size w w' ∧ ∃ (a : Option Addr) (n c : Nat), e = .returned (.tuple #[.slice a n c, .nilIface])) := HRd.out.mono fun e w' h => by unfold LoadC at h; rw [hr] at h; exact h
    have HR := hide hr
    clear HRd hr
    go_enter Tryz.func81, Tryz.ntmps81
    go_wp2_with (first | (go_at_call 112; refine HRd'.out.mono ?_; rintro e w1 ⟨hB, a, n, c, rfl⟩))
    go_ret2
    exact ⟨hB, by rw [HR.out]; exact ⟨a, n, c, rfl⟩⟩

set_option maxRecDepth 100000 in
set_option maxHeartbeats 1000000 in
theorem plainLoad_c (s : ByteArray) (w : World) (hs : s.size ≤ 32768) (hsg : SignsIn w) (hE : ErrT w) (hng : 1 < w.heap.size) :
    Calls Tryz.prog 24 #[.string s] w fun e w' => LoadPost s w e w' := by
  have HRd := hide (syntaxProgram_c s w hs hsg hng)
  cases hr : progS s with
  | error p =>
    obtain ⟨er, a⟩ := p
    have HRd' : Hid (Calls Tryz.prog 81 #[.string s] w fun e w' => Below w.heap.size w w' ∧ ∃ g, e = .returned (.tuple #[.slice none 0 0, .iface 147 (ptrV g)]) ∧ w'.heap[g]? = some (atV er a)) := HRd.out.mono fun e w' h => by unfold LoadC at h; rw [hr] at h; exact h
    have HR : Hid (progS s = .error (er, a)) := hr
    have HRead : Hid (Calls Tryz.prog 53 #[.string s] w fun e w' => Below w.heap.size w w' ∧ ∃ g, e = .returned (.tuple #[.pointer none, .iface 147 (ptrV g)]) ∧ w'.heap[g]? = some (atV er a)) := by
      clear HRd hr
      unfold ptrV at *
      go_enter Tryz.func53, Tryz.ntmps53
      go_wp2_with (first | (go_at_call 81; refine HRd'.out.mono ?_; rintro e w1 ⟨hB, g, rfl, hc⟩))
      go_ret2
      exact ⟨hB, g, rfl, hc⟩
    have HTl := hide tell_at
    clear HRd HRd' hr
    unfold ptrV at *
    go_enter Tryz.func24, Tryz.ntmps24
    go_wp2_with (first | (go_at_call 53; refine HRead.out.mono ?_; rintro e w1 ⟨hB, g, rfl, hc⟩; have hE1 : ErrT w1 := (hB.cell (p := ⟨0, 0, none⟩) (Nat.lt_of_le_of_lt (by decide) hng)).trans hE) | (go_at_call 36; refine (HTl.out _ g er a hc hE1).mono ?_; rintro e w2 ⟨rfl, hB2⟩))
    go_ret3
    refine ⟨below_chain hB hB2, ?_⟩
    rw [HR.out]; rfl
  | ok l =>
    have HRd' : Hid (Calls Tryz.prog 81 #[.string s] w fun e w' => Below w.heap.size w w' ∧ ∃ (a : Option Addr) (n c : Nat), e = .returned (.tuple #[.slice a n c, .nilIface])) := HRd.out.mono fun e w' h => by unfold LoadC at h; rw [hr] at h; exact h
    have HR : Hid (progS s = .ok l) := hr
    have HRead : Hid (Calls Tryz.prog 53 #[.string s] w fun e w' => Below w.heap.size w w' ∧ ∃ p, e = .returned (.tuple #[.pointer (some p), .nilIface])) := by
      clear HRd hr
      go_enter Tryz.func53, Tryz.ntmps53
      go_wp2_with (first | (go_at_call 81; refine HRd'.out.mono ?_; rintro e w1 ⟨hB, a, n, c, rfl⟩))
      go_ret2
      exact ⟨hB.alloc hB.size _, _, rfl⟩
    have HTl := hide tell_nil
    clear HRd HRd' hr
    go_enter Tryz.func24, Tryz.ntmps24
    go_wp2_with (first | (go_at_call 53; refine HRead.out.mono ?_; rintro e w1 ⟨hB, p, rfl⟩) | (go_at_call 36; refine (HTl.out _).mono ?_; rintro e w2 ⟨rfl, hB2⟩))
    go_ret3
    refine ⟨below_chain hB hB2, ?_⟩
    rw [HR.out]
    exact ⟨_, _, rfl⟩

end Go.Proofs.YtdigbgbmfjggnaaGreatDoor
