import PyProof.Rows.All
import Wide.All
import OpenK.AllK
import Wide.FinOn
import HandS.ForMost
import HandS.IsInst
import HandS.Walk
import HandS.Evl
import HandS.Codes
import PySem.Challenge.RW_tollguess_k01_names
set_option Elab.async false
set_option maxRecDepth 100000
set_option maxHeartbeats 4000000
namespace Toll
open PySem L2
def top (i : Nat) : Stmt := PySem.Challenge.pw_tollguess_k01_names.main.body.getD i (.Pass ⟨0, 0, 0, 0⟩)
def k_SMALL_SIGNS : Str := "abcdefghijklmnopqrstuvwxyz"
def k_NAME_SIGNS : Str := "abcdefghijklmnopqrstuvwxyz0123456789"
abbrev s_is_name : Stmt := top 4
abbrev n_is_name : List Str := ["text", "sign"]
theorem sc_is_name : FnScope n_is_name ["text"] (defScope s_is_name) := ⟨rfl, rfl, rfl, by decide +kernel, rfl, by decide +kernel, by decide +kernel⟩
abbrev s_l_cell_at : Stmt := top 6
abbrev n_l_cell_at : List Str := ["_law_script", "_law_k"]
theorem sc_l_cell_at : FnScope n_l_cell_at ["_law_script", "_law_k"] (defScope s_l_cell_at) := ⟨rfl, rfl, rfl, by decide +kernel, rfl, by decide +kernel, by decide +kernel⟩
abbrev s_law : Stmt := top 7
abbrev n_law : List Str := ["_law_script", "_law_some", "_law_cell", "_law_size", "_law_text", "_law_other", "_law_at", "_law_due", "_law_k", "_law_found"]
theorem sc_law : FnScope n_law ["_law_script"] (defScope s_law) := ⟨rfl, rfl, rfl, by decide +kernel, rfl, by decide +kernel, by decide +kernel⟩
end Toll

set_option Elab.async false
set_option maxRecDepth 100000
set_option maxHeartbeats 4000000
namespace Toll
open PySem L2
local macro_rules | `(tactic| walk_at "go1") => `(tactic| first
  | refine ⟨_, rfl, ?_⟩
  | refine ⟨rfl, ?_⟩
  | refine ⟨_, _, rfl, rfl, ?_⟩
  | (refine' ⟨?k1, ?_⟩; (case k1 => (show (0 : Int) < _; omega)))
  | (refine' ⟨⟨?k1, ?k2⟩, ?_⟩; (case k1 => omega); (case k2 => omega))
  | (refine' ⟨.inl ⟨?k1, ?k2⟩, ?_⟩; (case k1 => omega); (case k2 => omega))
  | (refine' ⟨.inr ⟨?k1, ?k2⟩, ?_⟩; (case k1 => omega); (case k2 => omega))
  | (refine' ⟨Evl.sz_of ?k1, ?_⟩; (case k1 => omega))
  | (refine' ⟨?k1, ?k2, ?_⟩; (case k1 => (show (_ : Int) ≤ _; omega)); (case k2 => omega))
  | refine ⟨⟨_, rfl⟩, ?_⟩
  | refine iteT ?_ | refine iteF ?_)
local macro_rules | `(tactic| walk_at "go") => `(tactic| repeat (walk_at "go1"))
def DefOk (P : Program) (w : World) (K : PySem.W.Frag) (mg : Str → Option Value) (base : Heap) (CX : CXT) (k : Nat) (f : Addr) (ps : List Str) (sp : Sp) : Prop :=
  ∃ fd : FuncData, FnOk P w K mg base CX k f fd ps sp ∧ Binds K fd ps [] ∧ PySem.W.keepIn K (.ref f) = true
structure Ads where
  is_name : Addr
  l_cell_at : Addr
  law : Addr
  tSMALL_SIGNS : Tok
  tMOST_SIGNS : Tok
  tNAME_SIGNS : Tok
structure Txt (K : PySem.W.Frag) (mg : Str → Option Value) (A : Ads) : Prop where
  m_is_name : mg "is_name" = some (.ref A.is_name)
  F_is_name : ∃ fd, Fun K "is_name" "is_name" s_is_name A.is_name fd
  m_l_cell_at : mg "_law_cell_at" = some (.ref A.l_cell_at)
  F_l_cell_at : ∃ fd, Fun K "_law_cell_at" "_law_cell_at" s_l_cell_at A.l_cell_at fd
  m_law : mg "law" = some (.ref A.law)
  F_law : ∃ fd, Fun K "law" "law" s_law A.law fd
  m_SMALL_SIGNS : mg "SMALL_SIGNS" = some (.str k_SMALL_SIGNS A.tSMALL_SIGNS)
  m_MOST_SIGNS : mg "MOST_SIGNS" = some (.int 8 A.tMOST_SIGNS)
  m_NAME_SIGNS : mg "NAME_SIGNS" = some (.str k_NAME_SIGNS A.tNAME_SIGNS)
  b_all : mg "all" = none
  b_len : mg "len" = none
  b_range : mg "range" = none
  b_isinstance : mg "isinstance" = none
  b_bool : mg "bool" = none
  b_int : mg "int" = none
def isName (cs : List Nat) : Bool := decide (0 < cs.length) && decide (cs.length ≤ 8) && decide (cs.getD 0 0 ∈ k_SMALL_SIGNS.cps.toList) && cs.all fun c => decide (c ∈ k_NAME_SIGNS.cps.toList)
def spIsName : Sp := fun vs H Q _ => ∃ z : Str, vs = [.str z] ∧ z.length ≤ 1000 ∧ ∀ H', Same H H' → Q (.bl (isName z.cps.toList)) H'
section
variable {P : Program} {w : World} {K : PySem.W.Frag} {mg : Str → Option Value} {base : Heap} {A : Ads}
theorem ok_is_name (T : Txt K mg A) : DefOk P w K mg base CX0 1 A.is_name ["text"] spIsName := by
  obtain ⟨fd, F⟩ := T.F_is_name
  refine ⟨fd, ?_, F.binds (ps := ["text"]) fun _ _ _ _ _ _ us hl => match us, hl with | [_], _ => rfl, F.kp⟩
  refine F.ok sc_is_name (fun vs H Q E h => ?_) (fun cdv A outer s H vs Q E hr h => ?_)
  · obtain ⟨z, rfl, _⟩ := h
    rfl
  · obtain ⟨z, rfl, hz, k⟩ := h
    refine ⟨_, (pss_cons (ps_if (PW.pt (pw_or (pt_cmpR op_eq (pv 0) pe_str (nomark _)) (pw_or1 (pt_cmpR op_gt (pe_callB call_len_str (by rfl) T.b_len PySem.boot_len (pa_cons (pv 0) pa_nil)) (pe_glob (v := .int 8) rfl T.m_MOST_SIGNS ⟨_, rfl⟩) (nomark _))))) (pss_one (ps_ret pe_bl)) pss_nil)
      (pss_cons (ps_if (pt_cmpR op_notIn_sign (pe_ix ix_str (pv 0) pe_int (fun _ _ => rfl)) (pe_glob (v := .str k_SMALL_SIGNS) rfl T.m_SMALL_SIGNS ⟨_, rfl⟩) rfl) (pss_one (ps_ret pe_bl)) pss_nil)
      (pss_one (ps_ret (pe_callB (cr_all rfl) (by rfl) T.b_all (by decide +kernel) (pa_cons (pe_lc (own := [("sign", 1)]) rfl sc_is_name.nd (pi_str (pv 0)) (blkOk_by (own := [("sign", 1)]) (N := n_is_name) (sc := defScope s_is_name) (by decide +kernel)) (fun _ _ _ _ _ => (pg_name (i := 1) sc_is_name.nd rfl (by first | exact Or.inl rfl | exact Or.inr rfl))) (fun _ _ _ _ _ => pts_nil) (fun _ _ _ _ _ => (pe_cmpR op_in_sign (pv 1) (pe_glob (v := .str k_NAME_SIGNS) rfl T.m_NAME_SIGNS ⟨_, rfl⟩) rfl))) pa_nil)))))), ?_⟩
    walk_at "go"
    refine ite2 (fun h => ?_) (fun h => ?_)
    · have e : isName z.cps.toList = false := by
        have h1 := of_decide_eq_true h
        cases h1
        rfl
      rw [← e]
      exact k _ (Same.refl H)
    · have hl : z.length = z.cps.toList.length := rfl
      have hp : 0 < z.cps.toList.length := by
        cases q : z.cps.toList with
        | nil => exact absurd (decide_eq_true (by rw [show z = (Str.ofString "") from (congrArg Str.mk (Array.toList_inj.mp q))])) h
        | cons _ _ => simp
      walk_at "go"
      refine ite2 (fun h2 => ?_) (fun h2 => ?_)
      · have h3 : (8 : Int) < z.length := of_decide_eq_true h2
        have e : isName z.cps.toList = false := by
          unfold isName
          rw [decide_eq_false (show ¬ z.cps.toList.length ≤ 8 by omega)]
          simp
        rw [← e]
        exact k _ (Same.refl H)
      · have h3 : ¬ (8 : Int) < z.length := fun q => h2 (decide_eq_true q)
        obtain ⟨c, cs, hc⟩ : ∃ c cs, z.cps.toList = c :: cs := by
          cases q : z.cps.toList with
          | nil => rw [q] at hp; cases hp
          | cons c cs => exact ⟨c, cs, rfl⟩
        walk_at "go"
        refine ⟨z, 0, c, rfl, rfl, Evl.sz_of (by omega), atI_nat (j := 0) (by rw [hc]; rfl), c, _, rfl, rfl, _, rfl, ?_⟩
        refine ite2 (fun h4 => ?_) (fun h4 => ?_)
        · have e : isName z.cps.toList = false := by
            unfold isName
            have h5 : ¬ c ∈ k_SMALL_SIGNS.cps.toList := by simpa using h4
            rw [hc]
            simp [h5]
          rw [← e]
          exact k _ (Same.refl H)
        · have h5 : c ∈ k_SMALL_SIGNS.cps.toList := by simpa using h4
          have e : isName z.cps.toList = ((z.cps.toList.map fun c => decide (c ∈ k_NAME_SIGNS.cps.toList)).all id) := by
            unfold isName
            rw [decide_eq_true hp, decide_eq_true (show z.cps.toList.length ≤ 8 by omega), hc]
            simp [h5]
          refine ⟨_, rfl, _, rfl, fun D hD => ?_⟩
          refine lc_it (walk_str (z := z)) (fun i H' => Same H H' ∧ H' D = some (.lst (((z.cps.toList.take i).map fun c => decide (c ∈ k_NAME_SIGNS.cps.toList)).map V.bl)))
            ⟨fun b o hb => by rw [upd_ne (ne_of_none hb hD)]; exact hb, upd_same⟩ (fun _ _ _ _ => trivial) ?_ ?_
          · rintro i x H1 H2 hi ⟨s1, hL⟩ ⟨rfl, c', hc', rfl⟩
            have hc2 : z.cps.toList[i]? = some c' := by rw [← hc']; simp
            refine ⟨rfl, ?_⟩
            walk_at "go"
            refine ⟨_, hL, ?_, ?_⟩
            · have : i < z.cps.size := hi
              simp
              refine Evl.sz_lt (Nat.lt_of_le_of_lt (Nat.min_le_left _ _) ?_)
              have : z.length = z.cps.size := rfl
              omega
            · refine ⟨fun b o hb => ?_, ?_⟩
              · by_cases hbD : b = D
                · subst hbD
                  rw [hD] at hb; cases hb
                · rw [upd_ne hbD]; exact s1 b o hb
              · rw [upd_same, List.take_add_one, hc2]
                simp
          · rintro H1 ⟨s1, hL⟩
            rw [show z.cps.size = z.cps.toList.length from rfl, List.take_length] at hL
            refine ⟨D, _, rfl, SqL.of hL, ?_⟩
            rw [← e]
            exact k _ s1
end
end Toll

set_option Elab.async false
set_option maxRecDepth 100000
set_option maxHeartbeats 4000000
namespace Toll
open PySem L2
local macro_rules | `(tactic| walk_at "go1") => `(tactic| first
  | refine ⟨_, rfl, ?_⟩
  | refine ⟨rfl, ?_⟩
  | refine ⟨_, _, rfl, rfl, ?_⟩
  | (refine' ⟨?k1, ?_⟩; (case k1 => (show (0 : Int) < _; omega)))
  | (refine' ⟨⟨?k1, ?k2⟩, ?_⟩; (case k1 => omega); (case k2 => omega))
  | (refine' ⟨.inl ⟨?k1, ?k2⟩, ?_⟩; (case k1 => omega); (case k2 => omega))
  | (refine' ⟨.inr ⟨?k1, ?k2⟩, ?_⟩; (case k1 => omega); (case k2 => omega))
  | (refine' ⟨Evl.sz_of ?k1, ?_⟩; (case k1 => omega))
  | (refine' ⟨?k1, ?k2, ?_⟩; (case k1 => (show (_ : Int) ≤ _; omega)); (case k2 => omega))
  | refine ⟨⟨_, rfl⟩, ?_⟩
  | refine .inl ⟨_, rfl, ?_⟩ | refine .inr ⟨_, rfl, ?_⟩
  | refine iteT ?_ | refine iteF ?_)
local macro_rules | `(tactic| walk_at "go") => `(tactic| repeat (walk_at "go1"))
def cellAt (ns : List Int) (k : Int) : Int := if k < (ns.length : Int) then ns.getD k.toNat 0 else 0
def spCell (K : PySem.W.Frag) : Sp := fun vs H Q _ => ∃ (a : Addr) (ns : List Int) (k : Int), vs = [.ref a, .int k] ∧ SqL K H a (ns.map V.int) ∧ 0 ≤ k ∧ Q (.int (cellAt ns k)) H
theorem map_int_get {ns : List Int} {i : Nat} (h : i < ns.length) : (ns.map V.int)[i]? = some (V.int (ns.getD i 0)) := by
  rw [List.getElem?_map, List.getElem?_eq_getElem h, List.getD_eq_getElem?_getD, List.getElem?_eq_getElem h]
  rfl
theorem joinL_len : ∀ l : List (List Nat), (TL.joinL [] l).length = (l.map List.length).sum
  | [] => rfl
  | [p] => by simp [TL.joinL]
  | p :: q :: r => by
    have ih := joinL_len (q :: r)
    rw [TL.joinL, List.length_append, List.length_append, ih]
    simp
theorem join_len (ys : List Str) : (PySem.Txt.join (Str.ofString "") ys).length = (ys.map (·.length)).sum := by
  rw [TL.join_eq]
  show (TL.tl (Str.join (Str.ofString "") ys)).length = _
  rw [TL.tl_join]
  show (TL.joinL [] (ys.map TL.tl)).length = _
  rw [joinL_len, List.map_map]
  rfl
theorem sum_ones : ∀ {ys : List Str}, (∀ y ∈ ys, y.length = 1) → (ys.map (·.length)).sum = ys.length
  | [], _ => rfl
  | y :: ys, h => by
    rw [List.map_cons, List.sum_cons, sum_ones fun z hz => h z (List.mem_cons_of_mem _ hz), h y (List.mem_cons_self ..)]
    simp; omega
theorem same_new {H H' : Hp} {p : Addr} {o : HO} (s : Same H H') (h : H p = none) : Same H (upd H' p o) := fun b u e => by
  rw [upd_ne (ne_of_none e h)]
  exact s b u e
theorem ix_mod (z : Str) (n : Int) {L : Nat} (hL : z.cps.toList.length = L) (h0 : 0 < L) : ∃ c, atI z.cps.toList (n % (L : Int)) = some c := by
  have h1 := Int.emod_nonneg n (b := (L : Int)) (by omega)
  have h2 := Int.emod_lt_of_pos n (b := (L : Int)) (by omega)
  have h3 : (n % (L : Int)).toNat < z.cps.toList.length := by omega
  refine ⟨_, Eq.trans (congrArg _ (Int.toNat_of_nonneg h1).symm) (atI_nat (List.getElem?_eq_getElem h3))⟩
theorem str_len (x y : Str) : (x ++ y).length = x.length + y.length := by
  show (x.cps ++ y.cps).size = _
  rw [Array.size_append]
  rfl
def someS : Str := "abcdefghijklmnopqrstuvwxyz0123456789"
theorem cut26 : cutS someS none (some 26) = k_SMALL_SIGNS := by decide +kernel
theorem cut36 : cutS someS none (some 36) = k_NAME_SIGNS := by decide +kernel
def overS : Str := " AZ_-.\n\t~{`\x40[/:09azq"
section
variable {P : Program} {w : World} {K : PySem.W.Frag} {mg : Str → Option Value} {base : Heap} {A : Ads}
theorem ok_l_cell_at (T : Txt K mg A) : DefOk P w K mg base CX0 1 A.l_cell_at ["_law_script", "_law_k"] (spCell K) := by
  obtain ⟨fd, F⟩ := T.F_l_cell_at
  refine ⟨fd, ?_, F.binds (ps := ["_law_script", "_law_k"]) fun _ _ _ _ _ _ us hl => match us, hl with | [_, _], _ => rfl, F.kp⟩
  refine F.ok sc_l_cell_at (fun vs H Q E h => ?_) (fun cdv A outer s H vs Q E hr h => ?_)
  · obtain ⟨a, ns, k, rfl, _⟩ := h
    rfl
  · obtain ⟨a, ns, k, rfl, hS, hk, q⟩ := h
    refine ⟨_, (pss_cons (ps_if (pt_cmpR op_lt (pv 1) (pe_callB call_len_seq (by rfl) T.b_len PySem.boot_len (pa_cons (pv 0) pa_nil)) (nomark _)) (pss_one (ps_ret (pe_ix ix_list (pv 0) (pv 1) (fun _ _ => rfl)))) pss_nil)
      (pss_one (ps_ret pe_int))), ?_⟩
    walk_at "go"
    refine ⟨_, _, rfl, .inl hS, ?_⟩
    walk_at "go"
    rw [List.length_map]
    unfold cellAt at q
    refine ite2 (fun h => ?_) (fun h => ?_)
    · have h1 : k < (ns.length : Int) := of_decide_eq_true h
      rw [if_pos h1] at q
      walk_at "go"
      refine ⟨_, _, _, _, rfl, rfl, hS, ?_, q⟩
      obtain ⟨j, rfl⟩ := Int.eq_ofNat_of_zero_le hk
      exact atI_nat (map_int_get (by omega))
    · have h1 : ¬ k < (ns.length : Int) := fun z => h (decide_eq_true z)
      rw [if_neg h1] at q
      exact q
theorem small_of {c : Nat} : c ∈ k_SMALL_SIGNS.cps.toList → c ∈ k_NAME_SIGNS.cps.toList := by
  have h : k_SMALL_SIGNS.cps.toList.all (fun c => decide (c ∈ k_NAME_SIGNS.cps.toList)) = true := by decide +kernel
  exact fun q => of_decide_eq_true (List.all_eq_true.mp h c q)
/-- what the law reckons sign by sign -/
def okSign (j : Nat) (c : Nat) : Bool := if j = 0 then decide (c ∈ k_SMALL_SIGNS.cps.toList) else decide (c ∈ k_NAME_SIGNS.cps.toList)
def due (cs : List Nat) : Nat → Bool
  | 0 => decide (0 < cs.length) && decide (cs.length < 9)
  | i + 1 => due cs i && okSign i (cs.getD i 0)
theorem due_all (cs : List Nat) (d0 : Nat) : ∀ i, i ≤ cs.length → due cs i = (decide (0 < cs.length) && decide (cs.length < 9) && (cs.take i).zipIdx.all fun p => okSign p.2 p.1)
  | 0, _ => by simp [due]
  | i + 1, h => by
    have ih := due_all cs d0 i (by omega)
    rw [due, ih, List.take_add_one, List.getElem?_eq_getElem (by omega), List.zipIdx_append, List.all_append]
    have e : min i cs.length = i := by omega
    simp [Bool.and_assoc, e, List.getD_eq_getElem?_getD, List.getElem?_eq_getElem (show i < cs.length by omega)]
theorem zip_tail : ∀ (cs : List Nat) (n : Nat), 0 < n → ((cs.zipIdx n).all fun p => okSign p.2 p.1) = cs.all fun c => decide (c ∈ k_NAME_SIGNS.cps.toList)
  | [], _, _ => rfl
  | c :: cs, n, h => by
    rw [List.zipIdx_cons, List.all_cons, List.all_cons, zip_tail cs (n + 1) (by omega)]
    have e : okSign n c = decide (c ∈ k_NAME_SIGNS.cps.toList) := by
      unfold okSign
      rw [if_neg (by omega)]
    rw [e]
theorem due_is (cs : List Nat) : due cs cs.length = isName cs := by
  rw [due_all cs 0 cs.length (Nat.le_refl _), List.take_length]
  unfold isName
  cases cs with
  | nil => rfl
  | cons c cs =>
    rw [List.zipIdx_cons, List.all_cons, List.all_cons, zip_tail cs 1 (by omega)]
    have e : okSign 0 c = decide (c ∈ k_SMALL_SIGNS.cps.toList) := by
      unfold okSign
      rw [if_pos rfl]
    rw [show (c :: cs).getD 0 0 = c from rfl, e]
    have h9 : decide ((c :: cs).length < 9) = decide ((c :: cs).length ≤ 8) := by
      by_cases q : (c :: cs).length < 9
      · rw [decide_eq_true q, decide_eq_true (by omega)]
      · rw [decide_eq_false q, decide_eq_false (by omega)]
    rw [h9]
    by_cases q : c ∈ k_SMALL_SIGNS.cps.toList
    · simp [q, small_of q]
    · simp [q]
def spLaw (K : PySem.W.Frag) : Sp := fun vs H Q _ => ∃ (a : Addr) (ns : List Int), vs = [.ref a] ∧ SqL K H a (ns.map V.int) ∧ ns.length ≤ 63 ∧ ∀ H', Q (.bl true) H'
theorem ok_law {f : Addr} {fd : FuncData} (F : Fun K "law" "law" s_law f fd) (T : Txt K mg A) : FnOk P w K mg base CX0 3 f fd ["_law_script"] (spLaw K) := by
  obtain ⟨_, G_l_cell_at, B_l_cell_at, K_l_cell_at⟩ := ok_l_cell_at (P := P) (w := w) (base := base) T
  obtain ⟨_, G_is_name, B_is_name, K_is_name⟩ := ok_is_name (P := P) (w := w) (base := base) T
  refine F.ok sc_law (fun vs H Q E h => ?_) (fun cdv A outer s H vs Q E hr h => ?_)
  · obtain ⟨a, ns, rfl, _⟩ := h
    rfl
  · obtain ⟨a, ns, rfl, hS, hl, q⟩ := h
    refine ⟨_, (pss_cons (ps_set (i := 1) sc_law.nd rfl (by first | exact Or.inl rfl | exact Or.inr rfl) pe_str)
      (pss_cons (ps_set (i := 2) sc_law.nd rfl (by first | exact Or.inl rfl | exact Or.inr rfl) (pe_call G_l_cell_at (hr.mono (by decide)) rfl T.m_l_cell_at K_l_cell_at B_l_cell_at .nil pass0 (pa_cons (pv 0) (pa_cons pe_int pa_nil))))
      (pss_cons (ps_set (i := 3) sc_law.nd rfl (by first | exact Or.inl rfl | exact Or.inr rfl) (pe_op op_mod (pv 2) pe_int))
      (C8.pss_cut (ps_if (pt_cmpR op_eq (pe_op op_mod (pe_op op_fdiv (pv 2) pe_int) pe_int) pe_int (nomark _)) (pss_one (ps_set (i := 3) sc_law.nd rfl (by first | exact Or.inl rfl | exact Or.inr rfl) pe_int)) pss_nil)
      (pss_cons (ps_set (i := 4) sc_law.nd rfl (by first | exact Or.inl rfl | exact Or.inr rfl) (pe_join pe_str (pe_lc (own := [("_law_k", 8)]) rfl sc_law.nd (pi_range1 (by rfl) T.b_range (pa_cons (pv 3) pa_nil)) (blkOk_by (own := [("_law_k", 8)]) (N := n_law) (sc := defScope s_law) (by decide +kernel)) (fun _ _ _ _ _ => (pg_name (i := 8) sc_law.nd rfl (by first | exact Or.inl rfl | exact Or.inr rfl))) (fun _ _ _ _ _ => pts_nil) (fun _ _ _ _ _ => (pe_ix ix_str (pv 1) (pe_op op_mod (pe_op op_add (pe_op op_add (pe_op op_fdiv (pv 2) pe_int) (pe_op op_mul (pe_op op_fdiv (pv 2) pe_int) (pv 8))) (pe_op op_mul pe_int (pv 8))) pe_int) (fun _ _ => rfl))))))
      (pss_cons (ps_set (i := 5) sc_law.nd rfl (by first | exact Or.inl rfl | exact Or.inr rfl) (pe_call G_l_cell_at (hr.mono (by decide)) rfl T.m_l_cell_at K_l_cell_at B_l_cell_at .nil pass0 (pa_cons (pv 0) (pa_cons pe_int pa_nil))))
      (C8.pss_cut (ps_if (PW.pt (pw_and (pt_cmpR op_eq (pe_op op_mod (pv 5) pe_int) pe_int (nomark _)) (pw_and1 (pt_cmpR op_ne (pv 4) pe_str (nomark _))))) (pss_cons (ps_set (i := 6) sc_law.nd rfl (by first | exact Or.inl rfl | exact Or.inr rfl) (pe_op op_mod (pe_op op_fdiv (pv 5) pe_int) (pe_callB call_len_str (by rfl) T.b_len PySem.boot_len (pa_cons (pv 4) pa_nil))))
      (C8.pss_cut (ps_if (pt_cmpR op_eq (pe_op op_mod (pv 5) pe_int) pe_int (nomark _)) (pss_one (ps_set (i := 6) sc_law.nd rfl (by first | exact Or.inl rfl | exact Or.inr rfl) (pe_op op_sub (pe_callB call_len_str (by rfl) T.b_len PySem.boot_len (pa_cons (pv 4) pa_nil)) pe_int))) pss_nil)
      (pss_one (ps_set (i := 4) sc_law.nd rfl (by first | exact Or.inl rfl | exact Or.inr rfl) (pe_op op_add_str (pe_op op_add_str (pe_slice sl_str (pv 4) po_none (po_some (pv 6))) (pe_ix ix_str pe_str (pe_op op_mod (pe_op op_fdiv (pv 5) pe_int) pe_int) (fun _ _ => rfl))) (pe_slice sl_str (pv 4) (po_some (pe_op op_add (pv 6) pe_int)) po_none)))))) pss_nil)
      (C8.pss_cut (ps_if (pt_cmpR op_eq (pe_op op_mod (pe_call G_l_cell_at (hr.mono (by decide)) rfl T.m_l_cell_at K_l_cell_at B_l_cell_at .nil pass0 (pa_cons (pv 0) (pa_cons pe_int pa_nil))) pe_int) pe_int (nomark _)) (pss_one (ps_set (i := 4) sc_law.nd rfl (by first | exact Or.inl rfl | exact Or.inr rfl) (pe_op op_add_str (pe_ix ix_str (pv 1) (pe_op op_mod (pe_op op_fdiv (pe_call G_l_cell_at (hr.mono (by decide)) rfl T.m_l_cell_at K_l_cell_at B_l_cell_at .nil pass0 (pa_cons (pv 0) (pa_cons pe_int pa_nil))) pe_int) pe_int) (fun _ _ => rfl)) (pv 4)))) pss_nil)
      (C8.pss_cut (ps_set (i := 7) sc_law.nd rfl (by first | exact Or.inl rfl | exact Or.inr rfl) (pe_chain op_lt op_lt pe_int (pe_callB call_len_str (by rfl) T.b_len PySem.boot_len (pa_cons (pv 4) pa_nil)) pe_int))
      (pss_cons (ps_for PassesOwn.never rfl (pi_range1 (by rfl) T.b_range (pa_cons (pe_callB call_len_str (by rfl) T.b_len PySem.boot_len (pa_cons (pv 4) pa_nil)) pa_nil)) (pg_name (i := 8) sc_law.nd rfl (by first | exact Or.inl rfl | exact Or.inr rfl)) (pss_one (ps_if (pt_cmpR op_notIn_sign (pe_ix ix_str (pv 4) (pv 8) (fun _ _ => rfl)) (pe_slice sl_str (pv 1) po_none (po_some (pe_ix ix_list (pe_lst (pa_cons pe_int (pa_cons pe_int pa_nil))) (pe_callTy call_int1 (by rfl) T.b_int (by decide +kernel) (pa_cons (pe_cmpR op_eq (pv 8) pe_int (nomark _)) pa_nil)) (fun _ _ => rfl)))) rfl) (pss_one (ps_set (i := 7) sc_law.nd rfl (by first | exact Or.inl rfl | exact Or.inr rfl) pe_bl)) pss_nil)))
      (pss_cons (ps_set (i := 9) sc_law.nd rfl (by first | exact Or.inl rfl | exact Or.inr rfl) (pe_call G_is_name (hr.mono (by decide)) rfl T.m_is_name K_is_name B_is_name .nil pass0 (pa_cons (pv 4) pa_nil)))
      (pss_one (ps_ret (pe_and (pe_callB call_isi (by rfl) T.b_isinstance (by decide +kernel) (pa_cons (pv 9) (pa_cons (pe_bltn (v := .ty "bool") (by rfl) T.b_bool (by decide +kernel) rfl) pa_nil))) (pe_one (pe_cmpR op_eq (pv 9) (pv 7) (nomark _))))))))))))))))), ?_⟩
    walk_at "go"
    refine ⟨a, ns, 0, rfl, hS, by decide, ?_⟩
    generalize cellAt ns 0 = c0
    walk_at "go"
    -- size
    refine ⟨fun σ' H' => ∃ m : Int, 0 ≤ m ∧ m ≤ 10 ∧ σ' = [some (.ref a), some (.str someS), some (.int c0), some (.int m), none, none, none, none, none, none] ∧ H = H', ?_, ?_⟩
    · walk_at "go"
      refine ite2 (fun h => ?_) (fun h => ?_)
      · exact ⟨8, by decide, by decide, rfl, rfl⟩
      · exact ⟨c0 % 11, by omega, by omega, rfl, rfl⟩
    rintro σ' H' ⟨m, m0, m10, rfl, rfl⟩
    -- text
    walk_at "go"
    intro D hD
    refine lc_range (lo := 0) (n := m.toNat) (fun i H' => Same H H' ∧ ∃ ys : List Str, H' D = some (.lst (ys.map .str)) ∧ ys.length = i ∧ ∀ y ∈ ys, y.length = 1)
      ⟨same_new (Same.refl H) hD, [], upd_same, rfl, by simp⟩ ?_ ?_
    · rintro i H1 hi ⟨s1, ys, hL, hyl, hy1⟩
      walk_at "go"
      have hi2 : ∃ c, someS.cps.toList[((c0 / 33 + c0 / 97 * (0 + (i : Int)) + 5 * (0 + (i : Int))) % 36).toNat]? = some c := by
        have : ((c0 / 33 + c0 / 97 * (0 + (i : Int)) + 5 * (0 + (i : Int))) % 36).toNat < someS.cps.toList.length := by
          have : someS.cps.toList.length = 36 := by decide +kernel
          omega
        exact ⟨_, List.getElem?_eq_getElem this⟩
      obtain ⟨c, hc⟩ := hi2
      refine ⟨someS, _, c, rfl, rfl, (by decide +kernel), (by rw [← Int.toNat_of_nonneg (a := (c0 / 33 + c0 / 97 * (0 + (i : Int)) + 5 * (0 + (i : Int))) % 36) (by omega)]; exact atI_nat hc), ?_⟩
      refine ⟨_, hL, by rw [List.length_map]; exact Evl.sz_lt (by omega), same_new s1 hD, ys ++ [⟨#[c]⟩], ?_, by simp [hyl], ?_⟩
      · rw [upd_same]
        simp
      · intro y hy
        rcases List.mem_append.mp hy with h | h
        · exact hy1 y h
        · rw [List.mem_singleton.mp h]
          rfl
    rintro H1 ⟨s1, ys, hL, hyl, hy1⟩
    refine ⟨_, D, ys, rfl, rfl, .inl (SqL.of hL), ?_, ?_⟩
    · rw [sum_ones hy1, show (Str.ofString "").length = 0 from rfl]
      omega
    have hlen : (PySem.Txt.join (Str.ofString "") ys).length ≤ 10 := by
      rw [join_len, sum_ones hy1]
      omega
    generalize PySem.Txt.join (Str.ofString "") ys = z0 at hlen
    walk_at "go"
    refine ⟨a, ns, 1, rfl, s1.seq hS, by decide, ?_⟩
    generalize cellAt ns 1 = c1
    walk_at "go"
    -- a sign written over
    refine ⟨fun σ' H' => ∃ (z : Str) (v : Option V), z.length ≤ 21 ∧ σ' = [some (.ref a), some (.str someS), some (.int c0), some (.int m), some (.str z), some (.int c1), v, none, none, none] ∧ H1 = H', ?_, ?_⟩
    · walk_at "go"
      refine ite2 (fun h => ?_) (fun h => ?_)
      · walk_at "go"
        refine ite2 (fun h2 => ?_) (fun h2 => ?_)
        · have hz : 0 < z0.length := by
            have h3 : ¬ V.str z0 = V.str (Str.ofString "") := by simpa using h2
            cases q : z0.cps.toList with
            | nil => exact absurd (congrArg V.str (show z0 = (Str.ofString "") from (congrArg Str.mk (Array.toList_inj.mp q)))) h3
            | cons _ _ =>
              have : z0.length = z0.cps.toList.length := rfl
              rw [this, q]; simp
          walk_at "go"
          refine ⟨fun σ' H' => ∃ v : Int, 0 ≤ v ∧ v < z0.length ∧ σ' = [some (.ref a), some (.str someS), some (.int c0), some (.int m), some (.str z0), some (.int c1), some (.int v), none, none, none] ∧ H1 = H', ?_, ?_⟩
          · walk_at "go"
            have h0 := Int.emod_nonneg (c1 / 2) (b := z0.length) (by omega)
            have h1 := Int.emod_lt_of_pos (c1 / 2) (b := z0.length) (by omega)
            refine ite2 (fun h => ?_) (fun h => ?_)
            · walk_at "go"
              exact ⟨_, (show (0 : Int) ≤ z0.length - 1 by omega), (show (z0.length : Int) - 1 < z0.length by omega), rfl, rfl⟩
            · exact ⟨_, h0, h1, rfl, rfl⟩
          · rintro σ' H' ⟨v, v0, v1, rfl, rfl⟩
            walk_at "go"
            obtain ⟨c, hc⟩ := ix_mod overS (c1 / 22) (L := 20) (by decide +kernel) (by decide)
            have l1 := cutS_length z0 none (some v)
            have l2 := cutS_length z0 (some (v + 1)) none
            refine ⟨overS, _, c, rfl, rfl, (by decide +kernel), hc, ?_⟩
            refine ⟨_, _, rfl, rfl, Evl.sz_of (by show (cutS z0 none (some v)).length + 1 ≤ _; omega), ?_⟩
            walk_at "go"
            refine ⟨Evl.sz_of (by rw [str_len]; show (cutS z0 none (some v)).length + 1 + (cutS z0 (some (v + 1)) none).length ≤ _; omega), ?_⟩
            refine ⟨_, _, ?_, rfl, rfl⟩
            rw [str_len, str_len]
            show (cutS z0 none (some v)).length + 1 + (cutS z0 (some (v + 1)) none).length ≤ _
            omega
        · exact ⟨z0, none, by omega, rfl, rfl⟩
      · exact ⟨z0, none, by omega, rfl, rfl⟩
    rintro σ' H' ⟨z1, v1, hz1, rfl, rfl⟩
    walk_at "go"
    refine ⟨fun σ' H' => ∃ (z : Str), z.length ≤ 22 ∧ σ' = [some (.ref a), some (.str someS), some (.int c0), some (.int m), some (.str z), some (.int c1), v1, none, none, none] ∧ H1 = H', ?_, ?_⟩
    · walk_at "go"
      refine ⟨a, ns, 2, rfl, s1.seq hS, by decide, ?_⟩
      walk_at "go"
      refine ite2 (fun h => ?_) (fun h => ?_)
      · walk_at "go"
        refine ⟨a, ns, 2, rfl, s1.seq hS, by decide, ?_⟩
        walk_at "go"
        obtain ⟨c, hc⟩ := ix_mod someS (cellAt ns 2 / 3) (L := 36) (by decide +kernel) (by decide)
        refine ⟨someS, _, c, rfl, rfl, (by decide +kernel), hc, ?_⟩
        walk_at "go"
        refine ⟨Evl.sz_of (by show 1 + z1.length ≤ _; omega), ?_⟩
        refine ⟨_, ?_, rfl, rfl⟩
        rw [str_len]
        show 1 + z1.length ≤ _
        omega
      · exact ⟨z1, by omega, rfl, rfl⟩
    rintro σ' H' ⟨z, hz, rfl, rfl⟩
    have zl : z.length = z.cps.toList.length := rfl
    walk_at "go"
    have e0 : decide (0 < (z.length : Int)) = decide (0 < z.cps.toList.length) := decide_eq_decide.mpr (by omega)
    have e9 : decide ((z.length : Int) < 9) = decide (z.cps.toList.length < 9) := decide_eq_decide.mpr (by omega)
    refine ⟨fun σ' H' => σ' = [some (.ref a), some (.str someS), some (.int c0), some (.int m), some (.str z), some (.int c1), v1, some (.bl (due z.cps.toList 0)), none, none] ∧ H1 = H', ?_, ?_⟩
    · walk_at "go"
      rw [e0]
      refine ite2 (fun h => ?_) (fun h => ?_)
      · walk_at "go"
        refine ⟨?_, rfl⟩
        show _ = [_, _, _, _, _, _, _, some (V.bl (decide _ && _)), _, _]
        rw [h, Bool.true_and, ← e9]
        rfl
      · refine ⟨?_, rfl⟩
        show _ = [_, _, _, _, _, _, _, some (V.bl (decide _ && _)), _, _]
        have h : decide (0 < z.cps.toList.length) = false := by simpa using h
        rw [h]
        rfl
    rintro σ' H' ⟨rfl, rfl⟩
    walk_at "go"
    refine for_range (lo := 0) (n := ((z.length : Nat) : Int).toNat) (fun i σ' H' => Same H1 H' ∧ ∃ v, σ' = [some (.ref a), some (.str someS), some (.int c0), some (.int m), some (.str z), some (.int c1), v1, some (.bl (due z.cps.toList i)), v, none])
      ⟨Same.refl _, _, rfl⟩ ?_ ?_
    · rintro i σ' H2 hi ⟨s2, v, rfl⟩
      have hi2 : i < z.cps.toList.length := by omega
      have hc : z.cps.toList[i]? = some (z.cps.toList.getD i 0) := by
        rw [List.getD_eq_getElem?_getD, List.getElem?_eq_getElem hi2]
        rfl
      have hd : due z.cps.toList (i + 1) = (due z.cps.toList i && okSign i (z.cps.toList.getD i 0)) := rfl
      generalize z.cps.toList.getD i 0 = c at hc hd
      walk_at "go"
      refine ⟨z, _, c, rfl, rfl, Evl.sz_of (by omega), (by rw [Int.zero_add]; exact atI_nat hc), ?_⟩
      walk_at "go"
      refine ⟨by decide, fun p hp => ?_⟩
      have hpp : H1 p = none := s2.free hp
      walk_at "go"
      by_cases h0 : i = 0
      · subst h0
        refine ⟨p, _, 1, .int 26, rfl, rfl, SqL.of upd_same, rfl, ?_⟩
        walk_at "go"
        refine ⟨(by decide +kernel), ?_⟩
        walk_at "go"
        rw [cut26]
        have ho : okSign 0 c = decide (c ∈ k_SMALL_SIGNS.cps.toList) := rfl
        refine ite2 (fun h => ?_) (fun h => ?_)
        · have h1 : decide (c ∈ k_SMALL_SIGNS.cps.toList) = false := by simpa using h
          refine ⟨same_new s2 hpp, some (.int (0 + (0 : Nat))), ?_⟩
          rw [hd, ho, h1, Bool.and_false]
          rfl
        · have h1 : decide (c ∈ k_SMALL_SIGNS.cps.toList) = true := by simpa using h
          refine ⟨same_new s2 hpp, some (.int (0 + (0 : Nat))), ?_⟩
          rw [hd, ho, h1, Bool.and_true]
          rfl
      · have hd0 : decide (V.int (0 + (i : Int)) = V.int 0) = false := decide_eq_false (by intro q; injection q with q; omega)
        rw [hd0]
        refine ⟨p, _, 0, .int 36, rfl, rfl, SqL.of upd_same, rfl, ?_⟩
        have hok : okSign i c = decide (c ∈ k_NAME_SIGNS.cps.toList) := by
          unfold okSign
          rw [if_neg h0]
        walk_at "go"
        refine ⟨(by decide +kernel), ?_⟩
        walk_at "go"
        rw [cut36]
        have ho : okSign i c = decide (c ∈ k_NAME_SIGNS.cps.toList) := hok
        refine ite2 (fun h => ?_) (fun h => ?_)
        · have h1 : decide (c ∈ k_NAME_SIGNS.cps.toList) = false := by simpa using h
          refine ⟨same_new s2 hpp, some (.int (0 + (i : Nat))), ?_⟩
          rw [hd, ho, h1, Bool.and_false]
          rfl
        · have h1 : decide (c ∈ k_NAME_SIGNS.cps.toList) = true := by simpa using h
          refine ⟨same_new s2 hpp, some (.int (0 + (i : Nat))), ?_⟩
          rw [hd, ho, h1, Bool.and_true]
          rfl
    rintro σ' H2 ⟨s2, v, rfl⟩
    walk_at "go"
    refine ⟨by omega, fun H3 s3 => ?_⟩
    walk_at "go"
    refine ⟨_, _, _, _, true, rfl, ClsV.ty _, TyX.base (TyOf.bl _), kit_ty (by decide +kernel), ?_⟩
    walk_at "go"
    have e : due z.cps.toList ((z.length : Nat) : Int).toNat = isName z.cps.toList := by
      rw [Int.toNat_natCast, zl, due_is]
    show Q (V.bl (decide (V.bl (isName z.cps.toList) = V.bl (due z.cps.toList ((z.length : Nat) : Int).toNat)))) _
    rw [e, decide_eq_true rfl]
    exact q _
end
end Toll

set_option Elab.async false
set_option maxRecDepth 100000
set_option maxHeartbeats 4000000
namespace Toll
open PySem L2
theorem all_mk {l : PySem.W.OpenLaw} {w : World} {K : PySem.W.Frag} {h : Heap} {mg : Str → Option Value} {fa f_is_name f_l_cell_at f_law : Addr} (X : K.In h) (G : h.Ns mainGlobals mg) (hfa : mg "law" = some (.ref fa))
    {od_is_name an_is_name od_l_cell_at an_l_cell_at od_law an_law : Option Addr} {sl_is_name sl_l_cell_at sl_law : Array (Option Value)} {oc_is_name kV_is_name dc_is_name pm_is_name cd_is_name ct_is_name oc_l_cell_at kV_l_cell_at dc_l_cell_at pm_l_cell_at cd_l_cell_at ct_l_cell_at oc_law kV_law dc_law pm_law cd_law ct_law : Value}
    {t_SMALL_SIGNS t_MOST_SIGNS t_NAME_SIGNS : Tok}
    (a_is_name : PySem.W.nsIn K mainGlobals "is_name" = some (some (.ref f_is_name))) (l_is_name : K.lookup f_is_name = some ⟨oc_is_name, od_is_name, .func (PySem.W.fnOf "is_name" "is_name" (defArgs s_is_name) (defBody s_is_name) (defScope s_is_name) .none kV_is_name dc_is_name pm_is_name an_is_name cd_is_name ct_is_name), sl_is_name⟩) (c_is_name : PySem.W.codeIn K cd_is_name "is_name" = true) (k_is_name : PySem.W.keepIn K (.ref f_is_name) = true)
    (a_l_cell_at : PySem.W.nsIn K mainGlobals "_law_cell_at" = some (some (.ref f_l_cell_at))) (l_l_cell_at : K.lookup f_l_cell_at = some ⟨oc_l_cell_at, od_l_cell_at, .func (PySem.W.fnOf "_law_cell_at" "_law_cell_at" (defArgs s_l_cell_at) (defBody s_l_cell_at) (defScope s_l_cell_at) .none kV_l_cell_at dc_l_cell_at pm_l_cell_at an_l_cell_at cd_l_cell_at ct_l_cell_at), sl_l_cell_at⟩) (c_l_cell_at : PySem.W.codeIn K cd_l_cell_at "_law_cell_at" = true) (k_l_cell_at : PySem.W.keepIn K (.ref f_l_cell_at) = true)
    (a_law : PySem.W.nsIn K mainGlobals "law" = some (some (.ref f_law))) (l_law : K.lookup f_law = some ⟨oc_law, od_law, .func (PySem.W.fnOf "law" "law" (defArgs s_law) (defBody s_law) (defScope s_law) .none kV_law dc_law pm_law an_law cd_law ct_law), sl_law⟩) (c_law : PySem.W.codeIn K cd_law "law" = true) (k_law : PySem.W.keepIn K (.ref f_law) = true)
    (u_SMALL_SIGNS : PySem.W.nsIn K mainGlobals "SMALL_SIGNS" = some (some (.str k_SMALL_SIGNS t_SMALL_SIGNS)))
    (u_MOST_SIGNS : PySem.W.nsIn K mainGlobals "MOST_SIGNS" = some (some (.int 8 t_MOST_SIGNS)))
    (u_NAME_SIGNS : PySem.W.nsIn K mainGlobals "NAME_SIGNS" = some (some (.str k_NAME_SIGNS t_NAME_SIGNS)))
    (z_all : PySem.W.nsIn K mainGlobals "all" = some none)
    (z_len : PySem.W.nsIn K mainGlobals "len" = some none)
    (z_range : PySem.W.nsIn K mainGlobals "range" = some none)
    (z_isinstance : PySem.W.nsIn K mainGlobals "isinstance" = some none)
    (z_bool : PySem.W.nsIn K mainGlobals "bool" = some none)
    (z_int : PySem.W.nsIn K mainGlobals "int" = some none) :
    ∃ fd : FuncData, (∀ (s : Shared) (v : Value), BindsTo s fd ⟨[v], []⟩ [("_law_script", v)]) ∧ ∀ base : Heap, K.In base → base.Ns mainGlobals mg → FnOk l.prog w K mg base CX0 3 fa fd ["_law_script"] (spLaw K) := by
  have e := hfa.symm.trans (PySem.W.mg_of X G a_law)
  cases e
  let A : Ads := { is_name := f_is_name, l_cell_at := f_l_cell_at, law := fa, tSMALL_SIGNS := t_SMALL_SIGNS, tMOST_SIGNS := t_MOST_SIGNS, tNAME_SIGNS := t_NAME_SIGNS }
  have T : Txt K mg A :=
    { m_is_name := PySem.W.mg_of X G a_is_name
      F_is_name := ⟨_, fun_mk (st := s_is_name) l_is_name c_is_name k_is_name⟩
      m_l_cell_at := PySem.W.mg_of X G a_l_cell_at
      F_l_cell_at := ⟨_, fun_mk (st := s_l_cell_at) l_l_cell_at c_l_cell_at k_l_cell_at⟩
      m_law := PySem.W.mg_of X G a_law
      F_law := ⟨_, fun_mk (st := s_law) l_law c_law k_law⟩
      m_SMALL_SIGNS := PySem.W.mg_of X G u_SMALL_SIGNS
      m_MOST_SIGNS := PySem.W.mg_of X G u_MOST_SIGNS
      m_NAME_SIGNS := PySem.W.mg_of X G u_NAME_SIGNS
      b_all := PySem.W.mg_none_of X G z_all
      b_len := PySem.W.mg_none_of X G z_len
      b_range := PySem.W.mg_none_of X G z_range
      b_isinstance := PySem.W.mg_none_of X G z_isinstance
      b_bool := PySem.W.mg_none_of X G z_bool
      b_int := PySem.W.mg_none_of X G z_int }
  exact ⟨PySem.W.fnOf "law" "law" (defArgs s_law) (defBody s_law) (defScope s_law) .none kV_law dc_law pm_law an_law cd_law ct_law, fun s v => .of_eq rfl, fun base _ _ => ok_law (fun_mk (st := s_law) l_law c_law k_law) T⟩
theorem walk {l : PySem.W.OpenLaw} {q : Program} {loose : List Str} {XP : (Str → Option Value) → Heap → Prop} {YP : World → Heap → Prop} {d : DefRec} {K : Params → PySem.W.Frag} (hn : l.most = some 63) (hdf : d.params.defaults = [])
    (hY : ∀ (w : World) (h : Heap), YP w h → (K w.params).In h)
    (F : ∀ (w : World) (mg : Str → Option Value) (fa : Addr) (h : Heap), (K w.params).In h → h.Ns mainGlobals mg → mg d.name = some (.ref fa) →
      ∃ fd : FuncData, (∀ (s : Shared) (u : Value), BindsTo s fd ⟨[u], []⟩ [("_law_script", u)]) ∧ ∀ base : Heap, (K w.params).In base → base.Ns mainGlobals mg → FnOk l.prog w (K w.params) mg base CX0 3 fa fd ["_law_script"] (spLaw (K w.params))) :
    PySem.W.WalkO q loose XP YP l.row.toRowW d [] (fun f vs => PySem.call f vs) :=
  L2.walk_of (n := 63) (k := 3) (x := "_law_script") (CX := fun _ => CX0) (sp := fun w => spLaw (K w.params)) hn (by decide) hdf ⟨rfl, by decide, by decide⟩ hY F (fun _ _ a ns hl _ hS => ⟨a, ns, rfl, hS, hl, fun _ => rfl⟩) fun _ _ _ _ _ z => z
end Toll
open PySem PySem.W PyProof.Rows
set_option maxRecDepth 100000 in
set_option maxHeartbeats 0 in
theorem PySem.Challenge.cw_tollguess_k01_names_holds : PySem.Challenge.rw_tollguess_k01_names.Holds := by
  w_on; o_law; k_head; (case hw => w_witness2)
  k_fill
  refine Toll.walk (l := PySem.Challenge.rw_tollguess_k01_names) rfl rfl (fun w h Y => PySem.W.kIn_of Y) ?F
  case F =>
    intro w mg fa h KX G hmg
    refine' Toll.all_mk KX G hmg ?a_is_name ?l_is_name ?c_is_name ?k_is_name ?a_l_cell_at ?l_l_cell_at ?c_l_cell_at ?k_l_cell_at ?a_law ?l_law ?c_law ?k_law ?u_SMALL_SIGNS ?u_MOST_SIGNS ?u_NAME_SIGNS ?z_all ?z_len ?z_range ?z_isinstance ?z_bool ?z_int
    (case a_is_name => k_is); (case l_is_name => k_is); (case c_is_name => k_is); (case k_is_name => k_is); (case a_l_cell_at => k_is); (case l_l_cell_at => k_is); (case c_l_cell_at => k_is); (case k_l_cell_at => k_is); (case a_law => k_is); (case l_law => k_is); (case c_law => k_is); (case k_law => k_is); (case u_SMALL_SIGNS => k_is); (case u_MOST_SIGNS => k_is); (case u_NAME_SIGNS => k_is); (case z_all => k_is); (case z_len => k_is); (case z_range => k_is); (case z_isinstance => k_is); (case z_bool => k_is); (case z_int => k_is)
#print axioms PySem.Challenge.cw_tollguess_k01_names_holds
