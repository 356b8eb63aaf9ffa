/- Contract: tags handed on one by one, as Stretched asks for them (chapter 6). -/
import Derived.Test.YtdcbideddlpodaaDoorW6d
namespace Go.Proofs.YtdcbideddlpodaaDoor
open Go.ChangeShapes Go.WideShapes Go.ChangeAt Go.RowKit Go.Shelf
set_option linter.unusedVariables false

attribute [local go_sem] Oper.semAt_some

set_option maxRecDepth 100000 in
set_option maxHeartbeats 1600000 in
theorem stText_any (Bi : Nat) (info last : ByteArray) (k : Nat) (w : World) (hk : k < 200) (hs : info.size ≤ 1000) (hl : last.size ≤ 32) (hi : Boxed w Bi 9 (.string info)) :
    Calls Tryd.prog 52 #[.int .i64 ((k + 1 : Nat) : Int), .string last, .pointer (some ⟨Bi, 0, none⟩)] w fun e w' => e = .returned (.string (stT info (k + 1) last)) ∧ Below w.heap.size w w' := by
  by_cases h : k = 0
  · subst h
    have HX : Hid (stT info (0 + 1) last = info ++ ⟨#[0, 0, 0, 1]⟩) := Lib.hid rfl
    rw [HX.out]
    obtain ⟨M1, hM1⟩ : ∃ M : ByteArray, info ++ ⟨#[0, 0, 0, 1]⟩ = M := ⟨_, rfl⟩
    rw [hM1]
    have hc := hi.cell
    have hsum1 : info.size + 4 ≤ 2000 := by omega
    clear HX hi hs hl
    go_enter Tryd.func52, Tryd.ntmps52
    go_wp2
    go_ret
    exact ⟨rfl, Below.refl _ _⟩
  · have HX : Hid (stT info (k + 1) last = last) := Lib.hid (if_neg (by omega))
    rw [HX.out]
    have hd : ¬ ((k : Int) + 1 = 1) := by omega
    clear HX hi hs hl h
    go_enter Tryd.func52, Tryd.ntmps52
    go_wp2
    go_ret
    exact ⟨rfl, Below.refl _ _⟩

set_option maxRecDepth 100000 in
set_option maxHeartbeats 2000000 in
theorem stParts1_in (n : Nat) (hn : 1 ≤ n) (l Bk Bc Bt Bi : Nat) (key info : ByteArray) (cnt : Nat) (hk : key.size ≤ 4000) (hi : info.size ≤ 1000) (hc : cnt ≤ 100) (J Jx : List Pt → World → Prop)
    (hY : ∀ pre (x : Pt) W, J pre W → pre.length < cnt → YieldAt Fence.wide (n - 1) Tryd.prog l #[.string x.1] W fun e W' =>
      (e = .returned (.bool true) ∧ J (pre ++ [x]) W' ∧ (PG Bk Bc Bt Bi key info cnt (.func (.func 52) #[] #[.pointer (some ⟨Bi, 0, none⟩)]) W → PG Bk Bc Bt Bi key info cnt (.func (.func 52) #[] #[.pointer (some ⟨Bi, 0, none⟩)]) W')) ∨ (e = .returned (.bool false) ∧ Jx (pre ++ [x]) W'))
    (hJ : ∀ pre W W', J pre W → Below W.heap.size W W' → J pre W')
    (W : World) (hG : PG Bk Bc Bt Bi key info cnt (.func (.func 52) #[] #[.pointer (some ⟨Bi, 0, none⟩)]) W) (h0 : J [] W) :
    CallsIn Fence.wide n Tryd.prog 73 #[.func (.yield l) #[] #[], .pointer (some ⟨Bc, 0, none⟩), .pointer (some ⟨Bk, 0, none⟩), .pointer (some ⟨Bt, 0, none⟩)] W fun e W' => (∃ v, e = .returned v) ∧
      ((∃ ys, ys = ptL key (stT info) cnt ∧ J ys W') ∨ (∃ pre, (∃ k, k ≤ cnt ∧ pre = ptL key (stT info) k) ∧ Jx pre W')) := by
  refine callsIn_of_wp Tryd.func73 rfl trivial ?_ rfl
  simp only [Tryd.ntmps73, List.size_toArray, List.length_cons, List.length_nil, Nat.reduceAdd, Nat.reduceSub, Array.replicate_succ, Array.replicate_zero, List.push_toArray, List.append_toArray, List.nil_append, List.cons_append]
  gi_wp2
  gi_loopw [5, 6] (fun s i wr => ∃ k : Nat, k ≤ cnt ∧ i = .int .i64 ((k + 1 : Nat) : Int) ∧ s = .string (ptB key (stT info) k) ∧ J (ptL key (stT info) k) wr ∧ PG Bk Bc Bt Bi key info cnt (.func (.func 52) #[] #[.pointer (some ⟨Bi, 0, none⟩)]) wr)
    (fun _ i _ => cnt + 1 - (intOf i).toNat)
  case atStart => exact ⟨0, Nat.zero_le _, rfl, rfl, h0, hG⟩
  case round =>
    obtain ⟨k, hkc, rfl, rfl, hJs, hG1⟩ := hrel
    clear hG h0
    have hcc := hG1.c.cell
    by_cases hlt : k < cnt
    · have hck : (k : Int) + 1 ≤ (cnt : Int) := by omega
      have hl := ptB_le key (stT info) k
      have HN : Hid (ptB key (stT info) (k + 1) = hmB key (stT info (k + 1) (ptB key (stT info) k))) := Lib.hid rfl
      have HL1 : Hid (ptL key (stT info) (k + 1) = ptL key (stT info) k ++ [⟨ptB key (stT info) (k + 1), ptB_size key (stT info) k⟩]) := Lib.hid rfl
      obtain ⟨L, hL⟩ : ∃ L, L = ptB key (stT info) k := ⟨_, rfl⟩
      rw [← hL] at hl HN ⊢
      have hxs := stT_le info (k + 1) L
      have HT := Lib.hid (fun w hi' => stText_any Bi info L k w (by omega) hi hl hi')
      obtain ⟨X, hX⟩ : ∃ X, X = stT info (k + 1) L := ⟨_, rfl⟩
      rw [← hX] at HN hxs HT
      have HH := Lib.hid (fun w hF hK => implHmac_any key X w (by unfold maxLen; omega) (by unfold maxLen; omega) hF hK)
      rw [show hmR key X = hmB key X by unfold hmR; rw [if_pos ⟨hk, by omega⟩], ← HN.out] at HH
      have hG2 : PG Bk Bc Bt Bi key info cnt (.func (.func 52) #[] #[.pointer (some ⟨Bi, 0, none⟩)]) wr.drew := hG1.below (Below.refl wr.heap.size wr).drew (Nat.le_refl _)
      have hJd : J (ptL key (stT info) k) wr.drew := hJ _ _ _ hJs (Below.refl wr.heap.size wr).drew
      clear hX hL hxs hG1 hJs
      gi_wp2
      refine wpIn_wide.2 ?_
      refine wp_region_T (fun w' => PG Bk Bc Bt Bi key info cnt (.func (.func 52) #[] #[.pointer (some ⟨Bi, 0, none⟩)]) w') (fun _ => True) 6 (by kernel_rfl) 7 rfl ?_
      refine wpAnyT_takesA (md := .any) 3 (by kernel_rfl) (by intro d v c a w h; cases d <;> exact h) [0, 1, 2, 3] _ _ _ (by decide) (by kernel_rfl) ⟨hG2, fun _ => trivial⟩ ?_
      simp only [pick, List.filterMap_cons, List.filterMap_nil, List.getElem?_cons_zero, List.getElem?_cons_succ]
      refine wpIf_step (.string key) (by kernel_rfl) (fun w hw => by have h0 := hw.k.cell; go_simp) ?_
      refine wpIf_step (.func (.func 52) #[] #[.pointer (some ⟨Bi, 0, none⟩)]) (by kernel_rfl) (fun w hw => by have h0 := hw.t.cell; go_simp) ?_
      iterate 2 (refine wpIf_step ?_ (by kernel_rfl) ?_ ?_; rotate_left; (intro w _; go_simp); try with_reducible rfl)
      refine wpIf_nil (fun hS => ?_)
      refine wpAnyT_one 4 2 (by kernel_rfl) rfl (by kernel_rfl) (fun K hK => ?_)
      go_simp
      refine (HT.out _ hG2.i).mono ?_
      rintro e w1 ⟨rfl, hb1⟩
      have hG3 := hG2.below hb1 (Nat.le_refl _)
      have hJ3 := hJ _ _ _ hJd hb1
      refine hK _ _ ⟨hG3, fun _ => trivial⟩ (fun hS3 => ?_)
      clear hK K hS hb1 hJd hG2
      refine wpAnyT_one 5 1 (by kernel_rfl) rfl (by kernel_rfl) (fun K hK => ?_)
      go_simp
      refine (HH.out _ hG3.F hG3.K).mono ?_
      rintro e w2 ⟨rfl, hb2⟩
      have hG4 := hG3.below hb2 (Nat.le_refl _)
      have hJ4 := hJ _ _ _ hJ3 hb2
      refine hK _ _ ⟨hG4, fun _ => trivial⟩ (fun hS4 => ?_)
      clear hK K hS3 hb2 hJ3 hG3
      refine wpAnyT_one 6 0 (by kernel_rfl) rfl (by kernel_rfl) (fun K hK => ?_)
      go_simp
      refine hK _ _ ⟨hG4, fun _ => trivial⟩ (fun hS5 => ?_)
      clear hK K hS4
      refine wpAnyT_over (by kernel_rfl) ?_
      obtain ⟨fn, tmps, assign, body, hy, hR⟩ := hY _ ⟨ptB key (stT info) (k + 1), ptB_size key (stT info) k⟩ w2 hJ4 (by rw [ptL_len]; exact hlt)
      rw [← HL1.out] at hR
      dsimp only at hy
      generalize hP : ptB key (stT info) (k + 1) = P at hy ⊢
      have HP := Lib.hid hP
      clear hS5 hP
      gi_wp2
      refine hR.mono ?_
      rintro e W3 (⟨rfl, hJ5, hk5⟩ | ⟨rfl, hJx5⟩)
      · have hG5 := hk5 hG4
        clear hk5 hG4 hR hy
        gi_wp2
        go_roundw
        case rel => exact ⟨k + 1, by omega, by simp, by rw [HP.out], hJ5, hG5⟩
        case measure => simp [intOf]; omega
      · gi_wp2
        refine bodyPost_ret (results_none rfl _ _ _) rfl ?_
        exact ⟨⟨_, rfl⟩, .inr ⟨_, ⟨k + 1, by omega, rfl⟩, hJx5⟩⟩
    · have hke : k = cnt := by omega
      have HK := Lib.hid hke
      have hck : ¬ (k : Int) + 1 ≤ (cnt : Int) := by omega
      clear hke
      gi_wp2
      go_end0
      exact ⟨⟨_, rfl⟩, .inl (by rw [← HK.out]; exact hJs)⟩

theorem stParts_stops (n : Nat) (hn : 1 ≤ n) (Bk Bc Bt Bi : Nat) (key info : ByteArray) (cnt : Nat) (hk : key.size ≤ 4000) (hi : info.size ≤ 1000) (hc : cnt ≤ 100) (w : World)
    (hG : PG Bk Bc Bt Bi key info cnt (.func (.func 52) #[] #[.pointer (some ⟨Bi, 0, none⟩)]) w) :
    SeqStopsK Fence.wide n Tryd.prog 73 #[.pointer (some ⟨Bc, 0, none⟩), .pointer (some ⟨Bk, 0, none⟩), .pointer (some ⟨Bt, 0, none⟩)] (fun x : Pt => #[Value.string x.1])
      (fun W W' => PG Bk Bc Bt Bi key info cnt (.func (.func 52) #[] #[.pointer (some ⟨Bi, 0, none⟩)]) W → PG Bk Bc Bt Bi key info cnt (.func (.func 52) #[] #[.pointer (some ⟨Bi, 0, none⟩)]) W')
      (fun ys => ys = ptL key (stT info) cnt) (fun pre => ∃ k, k ≤ cnt ∧ pre = ptL key (stT info) k) cnt w := fun l J Jx W hW hJ _ hY h0 =>
  stParts1_in n hn l Bk Bc Bt Bi key info cnt hk hi hc J Jx hY (fun pre A B hA hb => hJ pre A B none hA (grownBy_below hb) (fun r e => by cases e)) W (hG.below hW (Nat.le_refl _)) h0
end Go.Proofs.YtdcbideddlpodaaDoor
