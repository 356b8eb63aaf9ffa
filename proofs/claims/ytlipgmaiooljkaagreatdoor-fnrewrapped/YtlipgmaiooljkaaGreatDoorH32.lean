/- Joined: W2i, W2j, W2k. -/
import Derived.Test.YtlipgmaiooljkaaGreatDoorH8
import Derived.Test.YtlipgmaiooljkaaGreatDoorH19
import Derived.Test.YtlipgmaiooljkaaGreatDoorH28
import Derived.Test.YtlipgmaiooljkaaGreatDoorH29
/- W2i -/
namespace Go.Proofs.YtlipgmaiooljkaaGreatDoor
open Go.ChangeShapes Go.WideShapes Go.ChangeAt Go.RowKit
set_option linter.unusedVariables false

def chaPre : ByteArray := ⟨#[101, 120, 112, 97, 110, 100, 32, 51, 50, 45, 98, 121, 116, 101, 32, 107]⟩
/-- The sixteen words that a block begins with. -/
def firstL (key nonce : ByteArray) (c : Int) : List Int := loadL (chaPre ++ key).data.toList ++ [c] ++ loadL nonce.data.toList
def sumL (xs ys : List Int) : List Int := List.zipWith add32 xs ys
def blkR (key nonce : ByteArray) (c : Int) : ByteArray := ⟨(storeL (sumL (tenN 10 (firstL key nonce c)) (firstL key nonce c))).toArray⟩
theorem size_pre (key : ByteArray) : (chaPre ++ key).size = 16 + key.size := by rw [ByteArray.size_append]; rfl
theorem firstL_st (key nonce : ByteArray) (c : Int) (hk : key.size = 32) (hn : nonce.size = 12) (hc : isU c) : isSt (firstL key nonce c) := by
  unfold firstL
  refine ⟨?_, ?_⟩
  · have h1 : (chaPre ++ key).data.toList.length = 48 := by
      have := size_pre key
      rw [hk] at this
      simpa using this
    have h2 : nonce.data.toList.length = 12 := by simpa using hn
    rw [List.length_append, List.length_append, loadL_len, loadL_len, h1, h2]; rfl
  · intro x hx
    rcases List.mem_append.1 hx with hx | hx
    · rcases List.mem_append.1 hx with hx | hx
      · exact loadL_words _ x hx
      · simp at hx; rw [hx]; exact hc
    · exact loadL_words _ x hx

theorem sumL_len {xs ys : List Int} (h1 : xs.length = 16) (h2 : ys.length = 16) : (sumL xs ys).length = 16 := by simp [sumL, h1, h2]
theorem sumL_step {xs ys : List Int} (hsl : (sumL xs ys).length = 16) (n : Nat) (hx : n < xs.length) (hy : n < ys.length) : ((sumL xs ys).take n ++ xs.drop n).set n (add32 xs[n] ys[n]) = (sumL xs ys).take (n + 1) ++ xs.drop (n + 1) := by
  have hn : n < (sumL xs ys).length := by simp [sumL]; omega
  have e : add32 xs[n] ys[n] = (sumL xs ys)[n] := by simp [sumL]
  have hl : ((sumL xs ys).take n).length = n := by simp; omega
  rw [e, List.set_append_right _ _ (by omega), hl, Nat.sub_self, List.drop_eq_getElem_cons hx, List.set_cons_zero, List.take_succ_eq_append_getElem hn, List.append_assoc]
  rfl
theorem ownK_cell' {e : TypeId} {k : IntKind} {w : World} {base g cap n : Nat} {zs : List Int} (h : OwnK e k w base (.slice (some ⟨g, 0, none⟩) n cap) zs) (hn : n = zs.length) (j : Nat) (hj : j < zs.length) : w.cell? ⟨g, j, none⟩ = some (.int k zs[j]) := by
  subst hn
  have := World.ownsRow.cellAt h j (by omega)
  rw [this]
  have hk' : j < (zs.map (Value.int k)).length := by rw [List.length_map]; exact hj
  rw [List.getElem?_eq_getElem hk', List.getElem_map]
theorem below_grown' {B : Nat} {a w w' : World} {e : TypeId} {k : IntKind} {v : Value} {zs : List Int} (h : Below B a w) (ho : OwnK e k w B v zs) (hB : B ≤ w.heap.size) (hg : w.grownBy w' v.ownBlock) : Below B a w' :=
  h.trans ((Below.refl _ _).grown hg hB (ownBlock_base ho))

set_option maxRecDepth 100000 in
set_option maxHeartbeats 1600000 in
theorem l2Block_any (key nonce : ByteArray) (c : Int) (w : World) (hk : key.size = 32) (hn : nonce.size = 12) (hc : isU c) :
    Calls Tryz.prog 86 #[.string key, .string nonce, .int .u32 c] w fun e w' => e = .returned (.string (blkR key nonce c)) ∧ Below w.heap.size w w' := by
  have hst := firstL_st key nonce c hk hn hc
  have hps := size_pre key
  go_enter Tryz.func86, Tryz.ntmps86
  go_wp2_with fail
  change Calls _ _ #[.string (chaPre ++ key)] _ _
  refine (l1Load_any _ _ (by omega)).mono ?_
  rintro e w1 ⟨v1, rfl, ho1, hb1⟩
  have hl1 : (loadL (chaPre ++ key).data.toList).length = 12 := by
    have : (chaPre ++ key).data.toList.length = 48 := by
      rw [hk] at hps
      simpa using hps
    rw [loadL_len, this]
  have hl2 : (loadL nonce.data.toList).length = 3 := by
    have : nonce.data.toList.length = 12 := by simpa using hn
    rw [loadL_len, this]
  have hs1 := hb1.size
  have hF0 : firstL key nonce c = loadL (chaPre ++ key).data.toList ++ [c] ++ loadL nonce.data.toList := rfl
  obtain ⟨ka, hka⟩ : ∃ ka, ka = loadL (chaPre ++ key).data.toList := ⟨_, rfl⟩
  rw [← hka] at ho1 hl1 hF0
  clear hka hps
  go_wp2_with (first | (at_builtin; refine wpList_appKg Tryz.underlying122 Tryz.infoU32 (by decide) rfl (.tmp 14) (.tmp 16) rfl w.heap.size _ _ rfl (ho1.alloc _) w1.heap.size 1 _ _ [c] rfl (heap_alloc_new w1 _) rfl rfl (by decide) (by omega) (by simp; omega) ?_; intro v2 w2 ho2 hg2))
  have hb2 := below_grown' (hb1.alloc hs1 _) (ho1.alloc _) (by simp; omega) hg2
  have hs2 := hb2.size
  clear hg2 ho1 hb1 hs1
  refine (l1Load_any nonce _ (by omega)).mono ?_
  rintro e w3 ⟨v3, rfl, ho3, hb3⟩
  have ho2' := ho2.keep hb3 (Nat.le_refl _)
  have hb3' := hb2.trans (hb3.mono hs2)
  have hs3 := hb3'.size
  obtain ⟨na, hna⟩ : ∃ na, na = loadL nonce.data.toList := ⟨_, rfl⟩
  rw [← hna] at ho3 hl2 hF0
  clear hna ho2 hb2 hb3 hs2
  go_wp2_with (first | (at_builtin; refine wpList_appRow Tryz.underlying122 Tryz.infoU32 (by decide) rfl (.tmp 18) (.tmp 20) rfl w.heap.size _ _ rfl ho2' _ _ _ rfl ho3.row (by omega) (by simp; omega) hs3 ?_; intro v4 w4 ho4 hg4; have hb4 := below_grown' hb3' ho2' hs3 hg4; have hs4 := hb4.size) | (at_builtin; refine wpList_appRow Tryz.underlying122 Tryz.infoU32 (by decide) rfl (.tmp 22) (.tmp 23) rfl w4.heap.size _ _ rfl (OwnK.lit 104 .u32 w4 w4.heap.size (Nat.le_refl _)) _ _ _ rfl (ho4.alloc _).row (by simp only [List.length_append, List.length_cons, List.length_nil, hl1, hl2]; omega) (by simp only [List.length_append, List.length_cons, List.length_nil, hl1, hl2]; omega) (by simp) ?_; intro v5 w5 ho5 hg5))
  rw [← hF0] at ho4 ho5
  rw [List.nil_append] at ho5
  have hb5 : Below w4.heap.size w4 w5 := below_grown' ((Below.refl _ _).alloc (Nat.le_refl _) (.cells #[] 104)) (OwnK.lit 104 .u32 w4 w4.heap.size (Nat.le_refl _)) (by simp) hg5
  have hr4 := ho4.row
  obtain ⟨fs, hfs⟩ : ∃ fs, fs = firstL key nonce c := ⟨_, rfl⟩
  have HFS := Lib.hid hfs
  rw [← hfs] at hr4 ho5 hst
  obtain ⟨g, cap, rfl, hgb, -, -⟩ := ho5.form (fun e => by have := hst.1; rw [e] at this; cases this)
  rw [hst.1] at ho5 ⊢
  clear hg5 hg4 ho4 ho3 ho2' hb3' hs3 hF0 hl1 hl2 hfs
  go_loopw [9] (fun i wr => ∃ n : Nat, n ≤ 10 ∧ i = .int .i64 n ∧ OwnK 104 .u32 wr w4.heap.size (.slice (some ⟨g, 0, none⟩) 16 cap) (tenN n fs) ∧ Below w4.heap.size w4 wr) (fun i _ => 10 - (intOf i).toNat)
  case atStart => exact ⟨0, Nat.zero_le _, rfl, ho5, hb5⟩
  case round =>
    obtain ⟨n, hn1, rfl, h0, hb⟩ := hrel
    clear ho5 hb5
    have hs0 := tenN_st n hst
    by_cases hlt : n < 10
    · go_wp2_with fail
      refine (l2QAt_any w4.heap.size g cap _ 0 4 8 12 _ hs0 ⟨by decide, by decide, by decide, by decide, by decide, by decide, by decide, by decide, by decide, by decide⟩ h0).mono ?_
      rintro e x0 ⟨rfl, h1, hg1⟩
      replace hb := below_grown' hb h0 hb.size hg1
      replace hs0 := rnd_st 0 hs0
      replace h0 := h1
      clear h1 hg1
      go_wp2_with fail
      refine (l2QAt_any w4.heap.size g cap _ 1 5 9 13 _ hs0 ⟨by decide, by decide, by decide, by decide, by decide, by decide, by decide, by decide, by decide, by decide⟩ h0).mono ?_
      rintro e x1 ⟨rfl, h1, hg1⟩
      replace hb := below_grown' hb h0 hb.size hg1
      replace hs0 := rnd_st 1 hs0
      replace h0 := h1
      clear h1 hg1
      go_wp2_with fail
      refine (l2QAt_any w4.heap.size g cap _ 2 6 10 14 _ hs0 ⟨by decide, by decide, by decide, by decide, by decide, by decide, by decide, by decide, by decide, by decide⟩ h0).mono ?_
      rintro e x2 ⟨rfl, h1, hg1⟩
      replace hb := below_grown' hb h0 hb.size hg1
      replace hs0 := rnd_st 2 hs0
      replace h0 := h1
      clear h1 hg1
      go_wp2_with fail
      refine (l2QAt_any w4.heap.size g cap _ 3 7 11 15 _ hs0 ⟨by decide, by decide, by decide, by decide, by decide, by decide, by decide, by decide, by decide, by decide⟩ h0).mono ?_
      rintro e x3 ⟨rfl, h1, hg1⟩
      replace hb := below_grown' hb h0 hb.size hg1
      replace hs0 := rnd_st 3 hs0
      replace h0 := h1
      clear h1 hg1
      go_wp2_with fail
      refine (l2QAt_any w4.heap.size g cap _ 0 5 10 15 _ hs0 ⟨by decide, by decide, by decide, by decide, by decide, by decide, by decide, by decide, by decide, by decide⟩ h0).mono ?_
      rintro e x4 ⟨rfl, h1, hg1⟩
      replace hb := below_grown' hb h0 hb.size hg1
      replace hs0 := rnd_st 4 hs0
      replace h0 := h1
      clear h1 hg1
      go_wp2_with fail
      refine (l2QAt_any w4.heap.size g cap _ 1 6 11 12 _ hs0 ⟨by decide, by decide, by decide, by decide, by decide, by decide, by decide, by decide, by decide, by decide⟩ h0).mono ?_
      rintro e x5 ⟨rfl, h1, hg1⟩
      replace hb := below_grown' hb h0 hb.size hg1
      replace hs0 := rnd_st 5 hs0
      replace h0 := h1
      clear h1 hg1
      go_wp2_with fail
      refine (l2QAt_any w4.heap.size g cap _ 2 7 8 13 _ hs0 ⟨by decide, by decide, by decide, by decide, by decide, by decide, by decide, by decide, by decide, by decide⟩ h0).mono ?_
      rintro e x6 ⟨rfl, h1, hg1⟩
      replace hb := below_grown' hb h0 hb.size hg1
      replace hs0 := rnd_st 6 hs0
      replace h0 := h1
      clear h1 hg1
      go_wp2_with fail
      refine (l2QAt_any w4.heap.size g cap _ 3 4 9 14 _ hs0 ⟨by decide, by decide, by decide, by decide, by decide, by decide, by decide, by decide, by decide, by decide⟩ h0).mono ?_
      rintro e x7 ⟨rfl, h1, hg1⟩
      replace hb := below_grown' hb h0 hb.size hg1
      replace hs0 := rnd_st 7 hs0
      replace h0 := h1
      clear h1 hg1
      go_wp2
      go_roundw
      case rel => exact ⟨n + 1, by omega, by go_num, h0, hb⟩
      case measure => simp [intOf]; omega
    · have hn10 : n = 10 := by omega
      rw [hn10] at h0 hs0
      obtain ⟨xs, hxs⟩ : ∃ xs, xs = tenN 10 fs := ⟨_, rfl⟩
      rw [← hxs] at h0 hs0
      have HXS := Lib.hid hxs
      clear hxs
      obtain ⟨a4, cap4, rfl, hlc, hmx, hc4⟩ := hr4
      rw [hst.1] at hlc ⊢
      unfold maxLen at hmx
      obtain ⟨b4, o4, rfl, hb4l, hr4⟩ := hc4 0 (by rw [hst.1]; decide)
      clear hc4
      have HR4 := Lib.hid hr4
      clear hr4
      have hsl := sumL_len hs0.1 hst.1
      go_wp2
      go_loopw [10] (fun i wr => ∃ n : Nat, n ≤ 16 ∧ i = .int .i64 n ∧ OwnK 104 .u32 wr w4.heap.size (.slice (some ⟨g, 0, none⟩) 16 cap) ((sumL xs fs).take n ++ xs.drop n) ∧ Below w4.heap.size w4 wr) (fun i _ => 16 - (intOf i).toNat)
      case atStart => exact ⟨0, Nat.zero_le _, rfl, by simpa using h0, hb⟩
      case round =>
        obtain ⟨n, hn1, rfl, h1, hb1⟩ := hrel
        clear h0 hb hn10
        have hll : ((sumL xs fs).take n ++ xs.drop n).length = 16 := by rw [List.length_append, List.length_take, List.length_drop, hsl, hs0.1]; omega
        by_cases hlt : n < 16
        · have hx : n < xs.length := by rw [hs0.1]; exact hlt
          have hf : n < fs.length := by rw [hst.1]; exact hlt
          have c1 := ownK_cell' (w := wr.drew) h1 hll.symm n (by rw [hll]; exact hlt)
          have e1 : ((sumL xs fs).take n ++ xs.drop n)[n]'(by rw [hll]; exact hlt) = xs[n] := by
            rw [List.getElem_append_right (by simp; omega)]
            simp [hsl]
            congr 1
            omega
          rw [e1] at c1
          have f1 := OwnK.free (w := wr.drew) h1 hll.symm n
          have c2 : wr.drew.cell? ⟨b4, o4 + n, none⟩ = some (.int .u32 fs[n]) := by
            show wr.cell? ⟨b4, o4 + n, none⟩ = _
            rw [hb1.cell (p := ⟨b4, o4 + n, none⟩) hb4l, HR4.out n hf]; simp [hf]
          obtain ⟨x, hx'⟩ : ∃ x, x = xs[n] := ⟨_, rfl⟩
          obtain ⟨y, hy'⟩ : ∃ y, y = fs[n] := ⟨_, rfl⟩
          rw [← hx'] at c1
          rw [← hy'] at c2
          have hset := h1.set hll.symm n (add32 x y)
          rw [hx', hy', sumL_step hsl n hx hf, ← hx', ← hy'] at hset
          have hb2 := hb1.setCell (p := ⟨g, n, none⟩) hgb (.int .u32 (add32 x y))
          have hw := wrap_add32 x y
          have HS := Lib.hid hset
          have HB2 := Lib.hid hb2
          clear e1 hset hb2 hx' hy' h1 hb1
          go_wp2
          go_still_tail 12, (by kernel_rfl)
          change wpList _ _ _ _ _ wr.drew
          go_wp2
          go_roundw
          case rel => exact ⟨n + 1, by omega, by go_num, HS.out, below_drewN HB2.out 1⟩
          case measure => simp [intOf]; omega
        · have hn16 : n = 16 := by omega
          subst hn16
          have e2 : (sumL xs fs).take 16 ++ xs.drop 16 = sumL xs fs := by
            rw [List.take_of_length_le (by rw [hsl]; exact Nat.le_refl _), List.drop_eq_nil_of_le (by rw [hs0.1]; exact Nat.le_refl _), List.append_nil]
          rw [e2] at h1
          have hwd : ∀ n ∈ sumL xs fs, 0 ≤ n ∧ n ≤ 4294967295 := fun n hn => by
            unfold sumL at hn
            rw [List.mem_iff_getElem] at hn
            obtain ⟨k, hk, rfl⟩ := hn
            rw [List.getElem_zipWith]
            exact add32_u _ _
          have hbw := hb4.trans (hb1.mono hs4)
          have HBK : Hid (blkR key nonce c = ⟨(storeL (sumL xs fs)).toArray⟩) := Lib.hid (by rw [HXS.out, HFS.out]; rfl)
          have HW := Lib.hid hwd
          clear e2 hll hwd
          go_wp2_with fail
          refine (l1Store_any _ _ _ _ h1.row HW.out (by rw [hsl]; decide)).mono ?_
          rintro e w9 ⟨rfl, hb9⟩
          go_wp2
          go_ret
          exact ⟨ret_str HBK.out.symm, hbw.trans (hb9.mono hbw.size)⟩
end Go.Proofs.YtlipgmaiooljkaaGreatDoor

/- W2j -/
namespace Go.Proofs.YtlipgmaiooljkaaGreatDoor
open Go.ChangeShapes Go.WideShapes Go.ChangeAt Go.RowKit Go.Shelf
set_option linter.unusedVariables false

attribute [local go_sem] Oper.semAt_some

theorem loadL_append : ∀ (a b : List UInt8), a.length % 4 = 0 → loadL (a ++ b) = loadL a ++ loadL b
  | [], b, _ => rfl
  | [_], b, h => by simp at h
  | [_, _], b, h => by simp at h
  | [_, _, _], b, h => by simp at h
  | x :: y :: z :: t :: a, b, h => by
    have ih := loadL_append a b (by simp at h; omega)
    simp only [List.cons_append, loadL, ih]
theorem loadL_le4 (x : Int) (h0 : 0 ≤ x) (h1 : x ≤ 4294967295) : loadL (le4 x) = [x] := by
  unfold le4; simp only [loadL]; rw [le1_le4 x h0 h1]
theorem stR_one (c : Int) (h0 : 0 ≤ c) (h1 : c ≤ 4294967295) : stR [c] = ⟨(le4 c).toArray⟩ := by
  unfold stR
  rw [if_pos ⟨by simp, by simp [isW, h0, h1]⟩]
  simp [storeL]
/-- The text of the first words. -/
def chaText (key nonce : ByteArray) (c : Int) : ByteArray := chaPre ++ key ++ ⟨(le4 c).toArray⟩ ++ nonce
theorem ba_append_list (a b : ByteArray) : (a ++ b).data.toList = a.data.toList ++ b.data.toList := by
  rw [ByteArray.data_append, Array.toList_append]
theorem chaText_size (key nonce : ByteArray) (c : Int) (hk : key.size = 32) (hn : nonce.size = 12) : (chaText key nonce c).size = 64 := by
  unfold chaText
  rw [ByteArray.size_append, ByteArray.size_append, size_pre, hk, hn]; rfl
theorem chaText_words (key nonce : ByteArray) (c : Int) (hk : key.size = 32) (hn : nonce.size = 12) (h0 : 0 ≤ c) (h1 : c ≤ 4294967295) : loadL (chaText key nonce c).data.toList = firstL key nonce c := by
  have h48 : (chaPre ++ key).data.toList.length = 48 := by
    have := size_pre key
    rw [hk] at this
    simpa using this
  unfold chaText firstL
  rw [ba_append_list, ba_append_list, loadL_append _ _ (by rw [List.length_append, h48, show (ByteArray.mk (le4 c).toArray).data.toList = le4 c from rfl, show (le4 c).length = 4 from rfl]), loadL_append _ _ (by rw [h48])]
  rw [show (ByteArray.mk (le4 c).toArray).data.toList = le4 c from rfl, loadL_le4 c h0 h1]

/-- Words put at their places. -/
def putW {M : Nat} (pre : List (PW M)) : List Int := pre.foldl (fun zs x => zs.set x.1.1 x.1.2) (List.replicate 16 0)
theorem putW_snoc {M : Nat} (pre : List (PW M)) (x : PW M) : putW (pre ++ [x]) = (putW pre).set x.1.1 x.1.2 := by
  unfold putW; rw [List.foldl_append]; rfl
theorem putW_len {M : Nat} (pre : List (PW M)) : (putW pre).length = 16 := by
  unfold putW
  suffices h : ∀ (pre : List (PW M)) (zs : List Int), (pre.foldl (fun zs x => zs.set x.1.1 x.1.2) zs).length = zs.length by rw [h]; simp
  intro pre
  induction pre with
  | nil => intro zs; rfl
  | cons x pre ih => intro zs; rw [List.foldl_cons, ih]; simp
theorem putW_pws (s : ByteArray) (hs : s.size = 64) : ∀ k, k ≤ s.size / 4 → putW (pws s (s.size / 4) k) = (loadL s.data.toList).take k ++ List.replicate (16 - k) 0
  | 0, _ => rfl
  | k + 1, h => by
    have hl : (loadL s.data.toList).length = 16 := by rw [loadL_len]; simp [hs]
    have hk : k < (loadL s.data.toList).length := by omega
    have ih := putW_pws s hs k (by omega)
    rw [pws, dif_pos (by omega), putW_snoc, ih]
    have hp : 4 * k + 3 < s.data.toList.length := by simp; omega
    have hg := loadL_get s.data.toList k hp
    rw [List.getElem?_eq_getElem hk] at hg
    have hg' := Option.some.inj hg
    have hp' : 4 * k + 3 < s.size := by omega
    have hw : wordAt s k = (loadL s.data.toList)[k] := by rw [hg']; simp only [wordAt, dif_pos hp']; rfl
    have htl : ((loadL s.data.toList).take k).length = k := by simp; omega
    dsimp only
    rw [List.set_append_right _ _ (by omega), htl, Nat.sub_self, show 16 - k = (16 - (k + 1)) + 1 by omega, List.replicate_succ, List.set_cons_zero, hw, List.take_succ_eq_append_getElem hk, List.append_assoc]
    rfl
theorem putW_all (s : ByteArray) (hs : s.size = 64) : putW (pws s (s.size / 4) (s.size / 4)) = loadL s.data.toList := by
  rw [putW_pws s hs _ (Nat.le_refl _), hs]
  have hl : (loadL s.data.toList).length = 16 := by rw [loadL_len]; simp [hs]
  rw [List.take_of_length_le (by omega)]; simp

/-- The block B holds the words. -/
def ArrW (W : World) (B : Nat) (zs : List Int) : Prop := W.heap[B]? = some (.cells (stA zs) 133 (0, 0))
theorem arrW_own {β : Type} (B : Nat) (f : β → List Int) : Own (fun s W => ArrW W B (f s)) := fun s X Y row hs hg hrow =>
  (hg.block B (heap_lt hs) (fun e' => by obtain ⟨o, ho, hc⟩ := hrow B e'.symm; rw [show X.heap[B]? = _ from hs] at ho; cases ho; cases hc)).trans hs
theorem ArrW.cell {W : World} {B : Nat} {zs : List Int} (h : ArrW W B zs) (j : Nat) (hj : j < zs.length) : W.cell? ⟨B, j, none⟩ = some (.int .u32 zs[j]) := by
  rw [cell_of_row W B j _ _ (0, 0) h]; simp [stA, hj]
theorem ArrW.frozen {W : World} {B : Nat} {zs : List Int} (h : ArrW W B zs) (j : Nat) : W.frozen? ⟨B, j, none⟩ = false := frozen_of_row W B j _ _ h
theorem ArrW.set {W : World} {B : Nat} {zs : List Int} (h : ArrW W B zs) (j : Nat) (x : Int) : ArrW (W.setCell ⟨B, j, none⟩ (.int .u32 x)) B (zs.set j x) := by
  unfold ArrW
  rw [heap_setCell_same W B j _ _ _ h]
  simp [stA, List.map_set]
theorem stA_zero : stA (List.replicate 16 0) = #[Value.int IntKind.u32 0, Value.int IntKind.u32 0, Value.int IntKind.u32 0, Value.int IntKind.u32 0, Value.int IntKind.u32 0, Value.int IntKind.u32 0, Value.int IntKind.u32 0, Value.int IntKind.u32 0, Value.int IntKind.u32 0, Value.int IntKind.u32 0, Value.int IntKind.u32 0, Value.int IntKind.u32 0, Value.int IntKind.u32 0, Value.int IntKind.u32 0, Value.int IntKind.u32 0, Value.int IntKind.u32 0] := rfl
theorem rowAt_new (w : World) (c : Int) : RowAt .i64 (w.alloc (.cells #[.int .i64 c] 2)) (w.heap.size + 1) (.slice (some ⟨w.heap.size, 0, none⟩) 1 1) [c] := by
  refine ⟨some ⟨w.heap.size, 0, none⟩, 1, rfl, by simp, by unfold maxLen; omega, fun j hj => ⟨w.heap.size, 0, rfl, by omega, fun i hi => ?_⟩⟩
  have : i = 0 := by simp at hi; exact hi
  subst this
  rw [cell_of_row _ w.heap.size _ _ _ (0, 0) (heap_alloc_new w _)]; rfl

theorem grownBy_setCell2 (w : World) (b o : Nat) (u : Value) : w.grownBy (w.setCell ⟨b, o, none⟩ u) (some b) :=
  ⟨rfl, rfl, rfl, by simp [World.setCell], fun k _ hk => heap_setCell_other w _ k u (fun e => hk (by rw [e]))⟩

set_option maxRecDepth 100000 in
set_option maxHeartbeats 2000000 in
theorem firstState_any (key nonce : ByteArray) (c : Int) (w : World) (hk : key.size = 32) (hn : nonce.size = 12) (h0 : 0 ≤ c) (h1 : c ≤ 4294967295) :
    Calls Tryz.prog 124 #[.string key, .string nonce, .int .i64 c] w fun e w' => e = .returned (.agg (stA (firstL key nonce c))) ∧ Below w.heap.size w w' := by
  have hts := chaText_size key nonce c hk hn
  have HTW := Lib.hid (chaText_words key nonce c hk hn h0 h1)
  refine (callsIn_wide (n := 5)).1 ?_
  have hF44 : Fence.wide.fn 154 := trivial
  have hF59 : Fence.wide.fn 172 := trivial
  have hF60 : Fence.wide.fn 133 := trivial
  refine callsIn_of_wp_marks Tryz.func124 rfl trivial ?_ rfl
  simp only [Tryz.ntmps124, List.size_toArray, List.length_cons, List.length_nil, Nat.reduceAdd, Nat.reduceSub, Array.replicate_succ, Array.replicate_zero, List.push_toArray, List.append_toArray, List.nil_append, List.cons_append]
  have hrow : RowAt .i64 (((w.alloc zSt).alloc zSt).alloc (.cells #[.int .i64 c] 2)) (w.heap.size + 3) (.slice (some ⟨w.heap.size + 1 + 1, 0, none⟩) 1 1) [c] := by
    have h := rowAt_new ((w.alloc zSt).alloc zSt) c
    rw [World.size_alloc, World.size_alloc] at h
    exact h
  gi_wp2_with fail
  have hS := (callsIn_wide (n := 4)).2 (implStoreLe_any _ [c] _ _ hrow)
  rw [stR_one c h0 h1] at hS
  obtain ⟨q4, hq4⟩ : ∃ q : ByteArray, q = ⟨(le4 c).toArray⟩ := ⟨_, rfl⟩
  have hq4s : q4.size = 4 := by rw [hq4]; rfl
  rw [← hq4] at hS
  obtain ⟨s, hs⟩ : ∃ s, s = chaText key nonce c := ⟨_, rfl⟩
  have hT : (⟨#[101, 120, 112, 97, 110, 100, 32, 51, 50, 45, 98, 121, 116, 101, 32, 107]⟩ : ByteArray) ++ key ++ q4 ++ nonce = s := by rw [hs, hq4]; rfl
  have hsz : s.size = 64 := by rw [hs]; exact hts
  rw [← hs] at HTW
  have HS := Lib.hid hS
  clear hS hrow hq4 hs hts
  refine HS.out.mono ?_
  rintro e w1 ⟨rfl, hb1⟩
  clear HS
  gi_wp2_with fail
  refine ((callsIn_wide (n := 4)).2 (leWords_any s _)).mono ?_
  rintro e w' ⟨rfl, rfl⟩
  gi_wp2
  have bN := Boxed.new w1 9 (.string s)
  have hb3 : Below w.heap.size w (((w.alloc zSt).alloc zSt).alloc (.cells #[.int .i64 c] 2)) := (((Below.refl _ _).alloc (Nat.le_refl _) _).alloc (by simp) _).alloc (by simp; omega) _
  have hsz3 : (((w.alloc zSt).alloc zSt).alloc (.cells #[.int .i64 c] 2)).heap.size = w.heap.size + 3 := by simp
  have hz0 : (((w.alloc zSt).alloc zSt).alloc (.cells #[.int .i64 c] 2)).heap[w.heap.size]? = some zSt := by
    rw [heap_alloc_old _ _ (by simp; omega), heap_alloc_old _ _ (by simp)]; exact heap_alloc_new _ _
  have hz1 : (((w.alloc zSt).alloc zSt).alloc (.cells #[.int .i64 c] 2)).heap[w.heap.size + 1]? = some zSt := by
    rw [heap_alloc_old _ _ (by simp)]
    have h := heap_alloc_new (w.alloc zSt) zSt
    simpa using h
  have hb1' : Below w.heap.size w w1 := hb3.trans (hb1.mono hb3.size)
  have hs1 : w.heap.size + 3 ≤ w1.heap.size := by have := hb1.size; rw [← hsz3]; exact this
  have hA1 : ArrW (w1.alloc (.cells #[.string s] 9)) (w.heap.size + 1) (putW ([] : List (PW (s.size / 4)))) := by
    show (w1.alloc (.cells #[.string s] 9)).heap[w.heap.size + 1]? = some zSt
    rw [heap_alloc_old _ _ (by omega)]
    exact (hb1.block (w.heap.size + 1) (by rw [hsz3]; omega)).trans hz1
  have hZ1 : ArrW (w1.alloc (.cells #[.string s] 9)) w.heap.size (List.replicate 16 0) := by
    show (w1.alloc (.cells #[.string s] 9)).heap[w.heap.size]? = some zSt
    rw [heap_alloc_old _ _ (by omega)]
    exact (hb1.block w.heap.size (by rw [hsz3]; omega)).trans hz0
  have hB1 : Below w.heap.size w (w1.alloc (.cells #[.string s] 9)) := hb1'.alloc (by omega) _
  have hPA := putW_all s hsz
  rw [HTW.out] at hPA
  have HPA := Lib.hid hPA
  have hss : s.size / 4 = 16 := by omega
  have HSS := Lib.hid hss
  have hlc := firstL_st key nonce c hk hn ⟨h0, h1⟩
  have HI := Lib.hid (show (Tryz.prog.info? 133).map (·.size) = some (stA (firstL key nonce c)).size by rw [stA_size, hlc.1]; exact Tryz.infSt)
  have HSZ := Lib.hid (show (stA (List.replicate 16 0)).size = (stA (firstL key nonce c)).size by rw [stA_size, stA_size, hlc.1]; rfl)
  clear hb1 hb3 hz0 hz1 hb1' hsz3 hPA hss hT HTW hlc
  refine wpIn_rangeFunc_ownG rfl (by decide) (gf := 172) (lb := #[.pointer (some ⟨w1.heap.size, 0, none⟩)]) rfl trivial (enters_of Tryz.func172 (by kernel_rfl) rfl)
    (leWords_stops 4 (by decide) w1.heap.size s (by omega) _ bN) keepB_t (keepB_b (by simp)) (Below.refl _ _) (fun _ => rfl)
    (fun (pre : List (PW (s.size / 4))) W => ((ArrW W (w.heap.size + 1) (putW pre) ∧ Boxed W w1.heap.size 9 (.string s)) ∧ ArrW W w.heap.size (List.replicate 16 0)) ∧ Below w.heap.size w W)
    (fun _ _ _ => False)
    (OwnFrom.and (OwnFrom.and (OwnFrom.and (Own.from (arrW_own (w.heap.size + 1) (fun (pre : List (PW (s.size / 4))) => putW pre)) _) (Own.from (boxed_own _ _ _) _)) (Own.from (arrW_own w.heap.size (fun _ => List.replicate 16 0)) _)) (ownFrom_below (Nat.le_refl _) (by simp; omega)))
    (fun _ _ _ _ _ hs _ _ => hs)
    ⟨⟨⟨hA1, bN⟩, hZ1⟩, hB1⟩
    (fun x => { tmps := #[Value.string key, Value.string nonce, Value.int IntKind.i64 c, undef, undef, undef,
          Value.pointer (some { block := w.heap.size, off := 0 }),
          Value.pointer (some { block := w.heap.size + 1, off := 0 }), .int .i64 (x.1.1 : Int), .int .u32 x.1.2, Value.string key,
          Value.string ({ data := #[101, 120, 112, 97, 110, 100, 32, 51, 50, 45, 98, 121, 116, 101, 32, 107] } ++ key),
          Value.int IntKind.i64 c, Value.slice (some { block := w.heap.size + 1 + 1, off := 0 }) 1 1, Value.string q4,
          Value.string
            ({ data := #[101, 120, 112, 97, 110, 100, 32, 51, 50, 45, 98, 121, 116, 101, 32, 107] } ++ key ++ q4),
          Value.string nonce, Value.string s,
          .func (.func 172) #[] #[.pointer (some ⟨w1.heap.size, 0, none⟩)], .int .i64 (x.1.1 : Int), .int .u32 x.1.2, undef, undef, undef, undef], defers := [] }) ?assign ?body ?done ?stop
  case assign =>
    intro l x W K hK
    gi_wp2
    exact hK
  case body =>
    rintro l pre x W ⟨⟨⟨hA, hbN⟩, hZ⟩, hB⟩ hlt
    have hx0 := x.2.1
    have hp16 : x.1.1 < 16 := by have := HSS.out; omega
    have hc := hA.cell x.1.1 (by rw [putW_len]; exact hp16)
    have hf := hA.frozen x.1.1
    have hA2 := hA.set x.1.1 x.1.2
    rw [← putW_snoc] at hA2
    have HA2 := Lib.hid hA2
    obtain ⟨old, hold⟩ : ∃ old, old = (putW pre)[x.1.1]'(by rw [putW_len]; exact hp16) := ⟨_, rfl⟩
    rw [← hold] at hc
    clear hA hA2 hold hx0
    gi_wp2
    have hbN2 := hbN.kept (grownBy_setCell2 W (w.heap.size + 1) x.1.1 (Value.int .u32 x.1.2)) (by simp; omega)
    exact ⟨(KeepsOthers.setCell _ _ _).from _, Eq.trans hbN2 hbN.symm, ⟨⟨HA2.out, hbN2⟩, (heap_setCell_other _ _ _ _ (by simp)).trans hZ⟩, hB.setCell (p := ⟨w.heap.size + 1, x.1.1, none⟩) (by simp) _⟩
  case done =>
    rintro D ys W hD rfl ⟨⟨⟨hA, hbN⟩, hZ⟩, hB⟩ hK
    rename_i hcont
    refine hcont _ _ ?_
    clear hcont
    rw [HPA.out] at hA
    have HA := Lib.hid hA
    have HZ := Lib.hid hZ
    have hD2 : w.heap.size + 3 < D := by
      have : w1.heap.size + 1 ≤ D := by simpa using hD
      omega
    have hK2 : (W.setRow w.heap.size (stA (firstL key nonce c))).heap[D]? = some (.deferred (some [])) := by
      rw [setRow_other _ _ _ _ (by omega)]; exact hK
    have hZ2 : ArrW (W.setRow w.heap.size (stA (firstL key nonce c))) w.heap.size (firstL key nonce c) := setRow_heap _ _ _ _ _ _ hZ
    have hZ3 : ((W.setRow w.heap.size (stA (firstL key nonce c))).putObj D (.deferred none)).heap[w.heap.size]? = some (.cells (stA (firstL key nonce c)) 133 (0, 0)) := by
      rw [World.putObj_heap_other (by omega)]; exact hZ2
    have hB2 := below_setRow hB (Nat.le_refl _) (stA (firstL key nonce c))
    have HK2 := Lib.hid hK2
    have HZ3 := Lib.hid hZ3
    have HB2 := Lib.hid hB2
    clear hA hZ hbN hB hK hK2 hZ2 hZ3 hB2
    refine wpIn_wide.2 ?_
    go_wp2_with (first | (refine wpList_load_row rfl _ (.tmp 7) rfl (w.heap.size + 1) rfl _ _ _ _ HA.out Tryz.undSt rfl HI.out ?_) | (refine wpList_store_row rfl _ (.tmp 6) (.tmp 24) rfl w.heap.size _ rfl rfl _ _ HZ.out HI.out HSZ.out (stA_one _) ?_))
    refine ⟨by simp, .inl ⟨_, _, rfl, run_takeDeferred HK2.out, ?_⟩⟩
    exact ⟨_, results_cell_row rfl _ _ w.heap.size _ _ _ _ rfl HZ3.out Tryz.undSt rfl HI.out, rfl, HB2.out.trans (belowK_b (w := w) (Nat.le_refl _) _ D _ _ (by omega) HK2.out rfl rfl)⟩
  case stop =>
    rintro D c pre W _ _ h _
    exact h.elim
end Go.Proofs.YtlipgmaiooljkaaGreatDoor

/- W2k -/
namespace Go.Proofs.YtlipgmaiooljkaaGreatDoor
open Go.ChangeShapes Go.WideShapes Go.ChangeAt Go.RowKit Go.Shelf
set_option linter.unusedVariables false

theorem idx16_0 (a0 a1 a2 a3 a4 a5 a6 a7 a8 a9 a10 a11 a12 a13 a14 a15 : Int) (w : World) : Sem.run Tryz.prog (Instr.index 133 (.agg (stA [a0, a1, a2, a3, a4, a5, a6, a7, a8, a9, a10, a11, a12, a13, a14, a15])) (.int .i64 ((0 : Nat) : Int))) w = .ok (.int .u32 ([a0, a1, a2, a3, a4, a5, a6, a7, a8, a9, a10, a11, a12, a13, a14, a15].getD 0 0)) w := by kernel_rfl
theorem idx16_1 (a0 a1 a2 a3 a4 a5 a6 a7 a8 a9 a10 a11 a12 a13 a14 a15 : Int) (w : World) : Sem.run Tryz.prog (Instr.index 133 (.agg (stA [a0, a1, a2, a3, a4, a5, a6, a7, a8, a9, a10, a11, a12, a13, a14, a15])) (.int .i64 ((1 : Nat) : Int))) w = .ok (.int .u32 ([a0, a1, a2, a3, a4, a5, a6, a7, a8, a9, a10, a11, a12, a13, a14, a15].getD 1 0)) w := by kernel_rfl
theorem idx16_2 (a0 a1 a2 a3 a4 a5 a6 a7 a8 a9 a10 a11 a12 a13 a14 a15 : Int) (w : World) : Sem.run Tryz.prog (Instr.index 133 (.agg (stA [a0, a1, a2, a3, a4, a5, a6, a7, a8, a9, a10, a11, a12, a13, a14, a15])) (.int .i64 ((2 : Nat) : Int))) w = .ok (.int .u32 ([a0, a1, a2, a3, a4, a5, a6, a7, a8, a9, a10, a11, a12, a13, a14, a15].getD 2 0)) w := by kernel_rfl
theorem idx16_3 (a0 a1 a2 a3 a4 a5 a6 a7 a8 a9 a10 a11 a12 a13 a14 a15 : Int) (w : World) : Sem.run Tryz.prog (Instr.index 133 (.agg (stA [a0, a1, a2, a3, a4, a5, a6, a7, a8, a9, a10, a11, a12, a13, a14, a15])) (.int .i64 ((3 : Nat) : Int))) w = .ok (.int .u32 ([a0, a1, a2, a3, a4, a5, a6, a7, a8, a9, a10, a11, a12, a13, a14, a15].getD 3 0)) w := by kernel_rfl
theorem idx16_4 (a0 a1 a2 a3 a4 a5 a6 a7 a8 a9 a10 a11 a12 a13 a14 a15 : Int) (w : World) : Sem.run Tryz.prog (Instr.index 133 (.agg (stA [a0, a1, a2, a3, a4, a5, a6, a7, a8, a9, a10, a11, a12, a13, a14, a15])) (.int .i64 ((4 : Nat) : Int))) w = .ok (.int .u32 ([a0, a1, a2, a3, a4, a5, a6, a7, a8, a9, a10, a11, a12, a13, a14, a15].getD 4 0)) w := by kernel_rfl
theorem idx16_5 (a0 a1 a2 a3 a4 a5 a6 a7 a8 a9 a10 a11 a12 a13 a14 a15 : Int) (w : World) : Sem.run Tryz.prog (Instr.index 133 (.agg (stA [a0, a1, a2, a3, a4, a5, a6, a7, a8, a9, a10, a11, a12, a13, a14, a15])) (.int .i64 ((5 : Nat) : Int))) w = .ok (.int .u32 ([a0, a1, a2, a3, a4, a5, a6, a7, a8, a9, a10, a11, a12, a13, a14, a15].getD 5 0)) w := by kernel_rfl
theorem idx16_6 (a0 a1 a2 a3 a4 a5 a6 a7 a8 a9 a10 a11 a12 a13 a14 a15 : Int) (w : World) : Sem.run Tryz.prog (Instr.index 133 (.agg (stA [a0, a1, a2, a3, a4, a5, a6, a7, a8, a9, a10, a11, a12, a13, a14, a15])) (.int .i64 ((6 : Nat) : Int))) w = .ok (.int .u32 ([a0, a1, a2, a3, a4, a5, a6, a7, a8, a9, a10, a11, a12, a13, a14, a15].getD 6 0)) w := by kernel_rfl
theorem idx16_7 (a0 a1 a2 a3 a4 a5 a6 a7 a8 a9 a10 a11 a12 a13 a14 a15 : Int) (w : World) : Sem.run Tryz.prog (Instr.index 133 (.agg (stA [a0, a1, a2, a3, a4, a5, a6, a7, a8, a9, a10, a11, a12, a13, a14, a15])) (.int .i64 ((7 : Nat) : Int))) w = .ok (.int .u32 ([a0, a1, a2, a3, a4, a5, a6, a7, a8, a9, a10, a11, a12, a13, a14, a15].getD 7 0)) w := by kernel_rfl
theorem idx16_8 (a0 a1 a2 a3 a4 a5 a6 a7 a8 a9 a10 a11 a12 a13 a14 a15 : Int) (w : World) : Sem.run Tryz.prog (Instr.index 133 (.agg (stA [a0, a1, a2, a3, a4, a5, a6, a7, a8, a9, a10, a11, a12, a13, a14, a15])) (.int .i64 ((8 : Nat) : Int))) w = .ok (.int .u32 ([a0, a1, a2, a3, a4, a5, a6, a7, a8, a9, a10, a11, a12, a13, a14, a15].getD 8 0)) w := by kernel_rfl
theorem idx16_9 (a0 a1 a2 a3 a4 a5 a6 a7 a8 a9 a10 a11 a12 a13 a14 a15 : Int) (w : World) : Sem.run Tryz.prog (Instr.index 133 (.agg (stA [a0, a1, a2, a3, a4, a5, a6, a7, a8, a9, a10, a11, a12, a13, a14, a15])) (.int .i64 ((9 : Nat) : Int))) w = .ok (.int .u32 ([a0, a1, a2, a3, a4, a5, a6, a7, a8, a9, a10, a11, a12, a13, a14, a15].getD 9 0)) w := by kernel_rfl
theorem idx16_10 (a0 a1 a2 a3 a4 a5 a6 a7 a8 a9 a10 a11 a12 a13 a14 a15 : Int) (w : World) : Sem.run Tryz.prog (Instr.index 133 (.agg (stA [a0, a1, a2, a3, a4, a5, a6, a7, a8, a9, a10, a11, a12, a13, a14, a15])) (.int .i64 ((10 : Nat) : Int))) w = .ok (.int .u32 ([a0, a1, a2, a3, a4, a5, a6, a7, a8, a9, a10, a11, a12, a13, a14, a15].getD 10 0)) w := by kernel_rfl
theorem idx16_11 (a0 a1 a2 a3 a4 a5 a6 a7 a8 a9 a10 a11 a12 a13 a14 a15 : Int) (w : World) : Sem.run Tryz.prog (Instr.index 133 (.agg (stA [a0, a1, a2, a3, a4, a5, a6, a7, a8, a9, a10, a11, a12, a13, a14, a15])) (.int .i64 ((11 : Nat) : Int))) w = .ok (.int .u32 ([a0, a1, a2, a3, a4, a5, a6, a7, a8, a9, a10, a11, a12, a13, a14, a15].getD 11 0)) w := by kernel_rfl
theorem idx16_12 (a0 a1 a2 a3 a4 a5 a6 a7 a8 a9 a10 a11 a12 a13 a14 a15 : Int) (w : World) : Sem.run Tryz.prog (Instr.index 133 (.agg (stA [a0, a1, a2, a3, a4, a5, a6, a7, a8, a9, a10, a11, a12, a13, a14, a15])) (.int .i64 ((12 : Nat) : Int))) w = .ok (.int .u32 ([a0, a1, a2, a3, a4, a5, a6, a7, a8, a9, a10, a11, a12, a13, a14, a15].getD 12 0)) w := by kernel_rfl
theorem idx16_13 (a0 a1 a2 a3 a4 a5 a6 a7 a8 a9 a10 a11 a12 a13 a14 a15 : Int) (w : World) : Sem.run Tryz.prog (Instr.index 133 (.agg (stA [a0, a1, a2, a3, a4, a5, a6, a7, a8, a9, a10, a11, a12, a13, a14, a15])) (.int .i64 ((13 : Nat) : Int))) w = .ok (.int .u32 ([a0, a1, a2, a3, a4, a5, a6, a7, a8, a9, a10, a11, a12, a13, a14, a15].getD 13 0)) w := by kernel_rfl
theorem idx16_14 (a0 a1 a2 a3 a4 a5 a6 a7 a8 a9 a10 a11 a12 a13 a14 a15 : Int) (w : World) : Sem.run Tryz.prog (Instr.index 133 (.agg (stA [a0, a1, a2, a3, a4, a5, a6, a7, a8, a9, a10, a11, a12, a13, a14, a15])) (.int .i64 ((14 : Nat) : Int))) w = .ok (.int .u32 ([a0, a1, a2, a3, a4, a5, a6, a7, a8, a9, a10, a11, a12, a13, a14, a15].getD 14 0)) w := by kernel_rfl
theorem idx16_15 (a0 a1 a2 a3 a4 a5 a6 a7 a8 a9 a10 a11 a12 a13 a14 a15 : Int) (w : World) : Sem.run Tryz.prog (Instr.index 133 (.agg (stA [a0, a1, a2, a3, a4, a5, a6, a7, a8, a9, a10, a11, a12, a13, a14, a15])) (.int .i64 ((15 : Nat) : Int))) w = .ok (.int .u32 ([a0, a1, a2, a3, a4, a5, a6, a7, a8, a9, a10, a11, a12, a13, a14, a15].getD 15 0)) w := by kernel_rfl
theorem idx16 (a0 a1 a2 a3 a4 a5 a6 a7 a8 a9 a10 a11 a12 a13 a14 a15 : Int) (n : Nat) (hn : n < 16) (w : World) : Sem.run Tryz.prog (Instr.index 133 (.agg (stA [a0, a1, a2, a3, a4, a5, a6, a7, a8, a9, a10, a11, a12, a13, a14, a15])) (.int .i64 (n : Int))) w = .ok (.int .u32 ([a0, a1, a2, a3, a4, a5, a6, a7, a8, a9, a10, a11, a12, a13, a14, a15].getD n 0)) w := by
  have hc : n = 0 ∨ n = 1 ∨ n = 2 ∨ n = 3 ∨ n = 4 ∨ n = 5 ∨ n = 6 ∨ n = 7 ∨ n = 8 ∨ n = 9 ∨ n = 10 ∨ n = 11 ∨ n = 12 ∨ n = 13 ∨ n = 14 ∨ n = 15 := by omega
  rcases hc with rfl | rfl | rfl | rfl | rfl | rfl | rfl | rfl | rfl | rfl | rfl | rfl | rfl | rfl | rfl | rfl
  · exact idx16_0 a0 a1 a2 a3 a4 a5 a6 a7 a8 a9 a10 a11 a12 a13 a14 a15 w
  · exact idx16_1 a0 a1 a2 a3 a4 a5 a6 a7 a8 a9 a10 a11 a12 a13 a14 a15 w
  · exact idx16_2 a0 a1 a2 a3 a4 a5 a6 a7 a8 a9 a10 a11 a12 a13 a14 a15 w
  · exact idx16_3 a0 a1 a2 a3 a4 a5 a6 a7 a8 a9 a10 a11 a12 a13 a14 a15 w
  · exact idx16_4 a0 a1 a2 a3 a4 a5 a6 a7 a8 a9 a10 a11 a12 a13 a14 a15 w
  · exact idx16_5 a0 a1 a2 a3 a4 a5 a6 a7 a8 a9 a10 a11 a12 a13 a14 a15 w
  · exact idx16_6 a0 a1 a2 a3 a4 a5 a6 a7 a8 a9 a10 a11 a12 a13 a14 a15 w
  · exact idx16_7 a0 a1 a2 a3 a4 a5 a6 a7 a8 a9 a10 a11 a12 a13 a14 a15 w
  · exact idx16_8 a0 a1 a2 a3 a4 a5 a6 a7 a8 a9 a10 a11 a12 a13 a14 a15 w
  · exact idx16_9 a0 a1 a2 a3 a4 a5 a6 a7 a8 a9 a10 a11 a12 a13 a14 a15 w
  · exact idx16_10 a0 a1 a2 a3 a4 a5 a6 a7 a8 a9 a10 a11 a12 a13 a14 a15 w
  · exact idx16_11 a0 a1 a2 a3 a4 a5 a6 a7 a8 a9 a10 a11 a12 a13 a14 a15 w
  · exact idx16_12 a0 a1 a2 a3 a4 a5 a6 a7 a8 a9 a10 a11 a12 a13 a14 a15 w
  · exact idx16_13 a0 a1 a2 a3 a4 a5 a6 a7 a8 a9 a10 a11 a12 a13 a14 a15 w
  · exact idx16_14 a0 a1 a2 a3 a4 a5 a6 a7 a8 a9 a10 a11 a12 a13 a14 a15 w
  · exact idx16_15 a0 a1 a2 a3 a4 a5 a6 a7 a8 a9 a10 a11 a12 a13 a14 a15 w
theorem idxSt (xs : List Int) (hx : xs.length = 16) (n : Nat) (hn : n < 16) (w : World) : Sem.run Tryz.prog (Instr.index 133 (.agg (stA xs)) (.int .i64 (n : Int))) w = .ok (.int .u32 (xs.getD n 0)) w := by
  match xs, hx with
  | [a0, a1, a2, a3, a4, a5, a6, a7, a8, a9, a10, a11, a12, a13, a14, a15], _ => exact idx16 a0 a1 a2 a3 a4 a5 a6 a7 a8 a9 a10 a11 a12 a13 a14 a15 n hn w
theorem ownB_keep {w w' : World} {base B : Nat} {v : Value} {l : List UInt8} (h : OwnB w base v l) (hb : Below B w w') (hB : w.heap.size ≤ B) : OwnB w' base v l := by
  refine ⟨h.1, ?_⟩
  rcases h.2 with h2 | ⟨g, cap, cur, hv, hg, hh, r⟩
  · exact .inl h2
  · have hlt : g < w.heap.size := by
      rcases Nat.lt_or_ge g w.heap.size with hlt | hge
      · exact hlt
      · rw [Array.getElem?_eq_none hge] at hh; cases hh
    exact .inr ⟨g, cap, cur, hv, hg, by rw [hb.block g (by omega)]; exact hh, r⟩
theorem ArrW.below {w w' : World} {B g : Nat} {zs : List Int} (h : ArrW w g zs) (hb : Below B w w') (hg : g < B) : ArrW w' g zs := (hb.block g hg).trans h

/-- ChaBlock, as the document says it. -/
def chR (key nonce : ByteArray) (c : Int) : ByteArray := if key.size = 32 ∧ nonce.size = 12 ∧ 0 ≤ c ∧ c ≤ 4294967295 then blkR key nonce c else ⟨#[]⟩

set_option maxRecDepth 100000 in
set_option maxHeartbeats 2000000 in
theorem implBlk_any (key nonce : ByteArray) (c : Int) (w : World) (hk : key.size = 32) (hn : nonce.size = 12) (h0 : 0 ≤ c) (h1 : c ≤ 4294967295) :
    Calls Tryz.prog 94 #[.string key, .string nonce, .int .i64 c] w fun e w' => e = .returned (.string (blkR key nonce c)) ∧ Below w.heap.size w w' := by
  have hst := firstL_st key nonce c hk hn ⟨h0, h1⟩
  have HF := Lib.hid (firstState_any key nonce c · hk hn h0 h1)
  have hd1 : ((key.size : Int) == 32) = true := by simp [hk]
  have hd2 : ((nonce.size : Int) == 12) = true := by simp [hn]
  have HR : Hid (blkR key nonce c = ⟨(storeL (sumL (tenN 10 (firstL key nonce c)) (firstL key nonce c))).toArray⟩) := Lib.hid rfl
  obtain ⟨fs, hfs⟩ : ∃ fs, fs = firstL key nonce c := ⟨_, rfl⟩
  rw [← hfs] at hst HF HR
  clear hfs hk hn
  go_enter Tryz.func94, Tryz.ntmps94
  go_wp2_with (first | (go_at_call 93; go_in) | (go_at_call 123; go_in))
  refine (HF.out _).mono ?_
  rintro e w1 ⟨rfl, hb1⟩
  clear HF
  have HI := Lib.hid (show (Tryz.prog.info? 133).map (·.size) = some (stA fs).size by rw [stA_size, hst.1]; exact Tryz.infSt)
  rename_i hK
  refine hK _ _ ?_
  clear hK
  refine step_to (v := .pointer (some ⟨w1.heap.size, 0, none⟩)) (w' := w1.alloc zSt) rfl (by first | kernel_rfl | rfl | (go_simp; rfl)) ?_
  refine wpList_store_row rfl _ (.tmp 7) (.tmp 23) rfl w1.heap.size (stA fs) rfl rfl _ _ (heap_alloc_new w1 zSt) HI.out (by rw [stA_size, hst.1]; rfl) (stA_one _) ?_
  have hA2 : ArrW ((w1.alloc zSt).setRow w1.heap.size (stA fs)) w1.heap.size fs := setRow_heap _ _ _ _ _ _ (heap_alloc_new w1 zSt)
  have hB2 : Below w.heap.size w ((w1.alloc zSt).setRow w1.heap.size (stA fs)) := below_setRow (hb1.alloc hb1.size _) hb1.size _
  have hs2 : w1.heap.size + 1 = ((w1.alloc zSt).setRow w1.heap.size (stA fs)).heap.size := by rw [size_setRow, World.size_alloc]
  have hs1 := hb1.size
  obtain ⟨w2, hw2⟩ : ∃ w2, w2 = (w1.alloc zSt).setRow w1.heap.size (stA fs) := ⟨_, rfl⟩
  rw [← hw2] at hA2 hB2 hs2 ⊢
  obtain ⟨g7, hg7⟩ : ∃ g7, g7 = w1.heap.size := ⟨_, rfl⟩
  rw [← hg7] at hA2 hs2 hs1 ⊢
  have HA2 := Lib.hid hA2
  clear hw2 hg7 hb1
  go_wp2_with (first | (at_make; refine wpList_makeB rfl _ _ rfl (g7 + 1) .i64 .i64 _ rfl rfl (by omega) (by omega) (by omega) ?_; intro v0 w3 hown0 hb3; have hA3 := HA2.out.below hb3 (by omega); have HA3 := Lib.hid hA3; clear hA3 HA2 hA2) | (refine wpList_load_row rfl _ (.tmp 7) rfl g7 rfl _ _ _ _ HA3.out Tryz.undSt rfl HI.out ?_))
  refine (mixed_any fs _ hst).mono ?_
  rintro e w4 ⟨rfl, hb4⟩
  have hs3 := hb3.size
  have hA4 := HA3.out.below hb4 (by omega)
  have hO4 := ownB_keep hown0 hb4 (Nat.le_refl _)
  have hB3 := hB2.trans (hb3.mono (by omega))
  have hB4 := hB3.trans (hb4.mono hB3.size)
  have hs4 : g7 + 1 ≤ w4.heap.size := by have := hb4.size; omega
  have hms := tenN_st 10 hst
  obtain ⟨ms, hmse⟩ : ∃ ms, ms = tenN 10 fs := ⟨_, rfl⟩
  rw [← hmse] at HR hms ⊢
  have hsl := sumL_len hms.1 hst.1
  have hwd : ∀ n ∈ sumL ms fs, 0 ≤ n ∧ n ≤ 4294967295 := fun n hn => by
    unfold sumL at hn
    rw [List.mem_iff_getElem] at hn
    obtain ⟨k, hk, rfl⟩ := hn
    rw [List.getElem_zipWith]
    exact add32_u _ _
  have HWD := Lib.hid hwd
  have HM := Lib.hid (fun n hn w => idxSt ms hms.1 n hn w)
  have hO0 : OwnB w4 (g7 + 1) v0 (storeL ((sumL ms fs).take 0)) := hO4
  clear HA3 hown0 hb3 hb4 hB3 hO4 hmse hwd hB2 hs2 hs3
  go_wp2
  go_loopw [8, 27] (fun v i wr => ∃ n : Nat, n ≤ 16 ∧ i = .int .i64 n ∧ OwnB wr (g7 + 1) v (storeL ((sumL ms fs).take n)) ∧ ArrW wr g7 fs ∧ g7 + 1 ≤ wr.heap.size ∧ Below w.heap.size w wr) (fun _ i _ => 16 - (intOf i).toNat)
  case atStart => exact ⟨0, Nat.zero_le _, rfl, hO0, hA4, hs4, hB4⟩
  case round =>
    obtain ⟨n, hn, rfl, hO, hA, hs, hB⟩ := hrel
    clear hO0 hA4 hs4 hB4
    by_cases hlt : n < 16
    · have hix := HM.out n hlt wr
      have hnf : n < fs.length := by rw [hst.1]; exact hlt
      have hnm : n < ms.length := by rw [hms.1]; exact hlt
      have hns : n < (sumL ms fs).length := by rw [hsl]; exact hlt
      have hc := hA.cell n hnf
      have hgm : ms.getD n 0 = ms[n] := by rw [List.getD_eq_getElem?_getD, List.getElem?_eq_getElem hnm]; rfl
      have hse : (sumL ms fs)[n] = add32 ms[n] fs[n] := by simp [sumL]
      have hsn := storeL_snoc (sumL ms fs) n hns
      rw [hse] at hsn
      rw [hgm] at hix
      obtain ⟨x, hx⟩ : ∃ x, x = ms[n] := ⟨_, rfl⟩
      obtain ⟨y, hy⟩ : ∃ y, y = fs[n] := ⟨_, rfl⟩
      rw [← hx] at hix hsn
      rw [← hy] at hc hsn
      have hw := wrap_add32 x y
      have hab := add32_u x y
      obtain ⟨a, ha⟩ : ∃ a, a = add32 x y := ⟨_, rfl⟩
      rw [← ha] at hw hab hsn
      have hll : (storeL ((sumL ms fs).take n)).length ≤ 100000000 := by rw [storeL_len]; simp; omega
      have HSN := Lib.hid hsn
      have HO := Lib.hid hO
      have HLL := Lib.hid hll
      clear hgm hse hsn hx hy ha hO hll
      go_wp2_with fail
      refine (appendLe_any _ _ a (g7 + 1) _ HO.out hab.1 hab.2 HLL.out hs).mono ?_
      rintro e w5 ⟨v5, rfl, hO5, hb5⟩
      rw [← HSN.out] at hO5
      have hA5 := hA.below hb5 (Nat.lt_succ_self _)
      have hB5 := hB.trans (hb5.mono (by omega))
      have hs5 : g7 + 1 ≤ w5.heap.size := Nat.le_trans hs hb5.size
      clear hA hB hb5 HO hs hc hix
      go_wp2
      go_roundw
      case rel => exact ⟨n + 1, by omega, by go_num, hO5, hA5, hs5, hB5⟩
      case measure => simp [intOf]; omega
    · have hn16 : n = 16 := by omega
      rw [hn16, List.take_of_length_le (by rw [hsl]; exact Nat.le_refl _)] at hO
      have hcv := conv_ownB hO
      clear hn16
      go_wp2
      go_ret
      exact ⟨ret_str HR.out.symm, hB⟩
end Go.Proofs.YtlipgmaiooljkaaGreatDoor
