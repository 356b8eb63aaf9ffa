/- Joined: W8t. -/
import Derived.Test.YtffkakpbelknaaaGreatDoorF37
import Derived.Test.YtffkakpbelknaaaGreatDoorF44
import Derived.Test.YtffkakpbelknaaaGreatDoorF48
/- W8t -/
namespace Go.Proofs.YtffkakpbelknaaaGreatDoor
open Go.ChangeShapes Go.WideShapes Go.ChangeAt Go.RowKit Go.Shelf
set_option linter.unusedVariables false
set_option linter.unusedSimpArgs false

theorem wp_appF {w w' : World} {o : Oper} {a : Act} {K : Act → World → Prop} {Q : Exit → Act → World → Prop} (t : TypeId) (s x : Operand) (ho : o.op = .call { callee := .builtin .append, args := #[s, x], argTypes := #[t, t] }) (v xv v' : Value) (hs : a.eval s = v) (hx : a.eval x = xv) (hrun : (Builtin.append_ #[t, t] o.type #[v, xv]).run Tryz.prog w = .ok v' w') (h : K (a.put o.dst v') w') : o.wp Tryz.prog a w K Q := by
  unfold Oper.wp
  simp [execOp, ho, resolve, invoke, builtin, hs, hx, hrun, Result.andThen]
  exact h
theorem tk_len (l word mark : List UInt8) : (tk l word mark).1.length ≤ l.length ∧ (tk l word mark).2.1.length ≤ l.length := by
  unfold tk
  split
  · rename_i h
    have e := congrArg List.length (cut_yes h.2)
    rw [List.length_append, List.length_append, List.length_drop] at e
    dsimp only
    constructor <;> omega
  · exact ⟨Nat.zero_le _, Nat.zero_le _⟩
theorem plA_len (l : List UInt8) : (plA l).1.length ≤ l.length := by
  cases h : (plA l).2 with
  | true =>
    obtain ⟨h1, _⟩ := plA_true h
    have h2 := escaped_plain _ _ _ (Nat.le_refl _) h1
    have h3 := plain_len (plA l).1
    rw [h2] at h3
    exact h3
  | false =>
    unfold plA at h ⊢
    split
    · rename_i hl
      rw [if_pos hl] at h
      cases hp : plL l with
      | none => exact Nat.zero_le _
      | some r => rw [hp] at h; cases h
    · exact Nat.zero_le _
theorem rdV_date (s : ByteArray) : ∃ y m d, rdV s = .tuple #[dV y m d, .bool (rdOk s)] ∧ (rdOk s = true → y = rY s ∧ m = rM s ∧ d = rD s) := by
  cases h : rdOk s with
  | true => exact ⟨rY s, rM s, rD s, rdV_yes ((rdOk_iff s).1 h), fun _ => ⟨rfl, rfl, rfl⟩⟩
  | false => exact ⟨0, 0, 0, rdV_not (fun hx => by rw [(rdOk_iff s).2 hx] at h; cases h), fun hx => by cases hx⟩

set_option maxRecDepth 100000 in
set_option maxHeartbeats 8000000 in
theorem specReadFeed_any (s : ByteArray) (w : World) :
    Calls Tryz.prog 15 #[.string s] w fun e w' => RfOut w.heap.size (rdF s) e w' ∧ Below w.heap.size w w' := by
  obtain ⟨o, ho⟩ : ∃ o, o = rdF s := ⟨_, rfl⟩
  rw [← ho]
  have hz := Box.new w #[.string ⟨#[]⟩, .string ⟨#[]⟩, .slice none 0 0] 26
  have hB : Below w.heap.size w (w.alloc (.cells #[.string ⟨#[]⟩, .string ⟨#[]⟩, .slice none 0 0] 26)) := (Below.refl _ _).alloc (Nat.le_refl _) _
  by_cases hs : s.size ≤ 4000
  case neg =>
    have hO : o = none := by rw [ho]; exact rdF_long hs
    have hsI : (4000 : Int) < (s.size : Int) := by omega
    clear hs
    go_enter Tryz.func15, Tryz.ntmps15
    have z0 := hz.cell 0 _ rfl
    have z1 := hz.cell 1 _ rfl
    have z2 := hz.cell 2 _ rfl
    have f0 := hz.free 0
    have f1 := hz.free 1
    have f2 := hz.free 2
    go_wp2
    refine bodyPost_ret (results_fd2 rfl _ _ _ ⟨#[]⟩ ⟨#[]⟩ (.slice none 0 0) _ rfl rfl hz) rfl ?_
    exact ⟨ret_zero hO, hB⟩
  have hsI : ¬ (4000 : Int) < (s.size : Int) := by omega
  have hsl : s.data.toList.length = s.size := by simp
  obtain ⟨A, hA⟩ : ∃ A, A = tk s.data.toList fS0 iL3 := ⟨_, rfl⟩
  obtain ⟨B, hB2⟩ : ∃ B, B = tk A.2.1 fSt fS2 := ⟨_, rfl⟩
  have hph := pHead_ref s.data.toList A B hA hB2
  have hAl := tk_len s.data.toList fS0 iL3
  rw [← hA] at hAl
  have hBl := tk_len A.2.1 fSt fS2
  rw [← hB2] at hBl
  have T1 : Hid (∀ w, Calls Tryz.prog 48 #[.string s, .string ⟨#[60, 102, 101, 101, 100, 32, 117, 114, 108, 61, 34]⟩, .string ⟨#[34, 62]⟩] w fun e w' => e = .returned (.tuple #[.string (bl A.1), .string (bl A.2.1), .bool A.2.2]) ∧ Below w.heap.size w w') := Lib.hid (fun w => by rw [hA]; exact l8Take_any s ⟨#[60, 102, 101, 101, 100, 32, 117, 114, 108, 61, 34]⟩ ⟨#[34, 62]⟩ w (by omega) (by decide) (by decide) (by decide))
  have T2 : Hid (∀ w, Calls Tryz.prog 48 #[.string (bl A.2.1), .string ⟨#[60, 116, 105, 116, 108, 101, 62]⟩, .string ⟨#[60, 47, 116, 105, 116, 108, 101, 62]⟩] w fun e w' => e = .returned (.tuple #[.string (bl B.1), .string (bl B.2.1), .bool B.2.2]) ∧ Below w.heap.size w w') := Lib.hid (fun w => by rw [hB2]; exact l8Take_any (bl A.2.1) ⟨#[60, 116, 105, 116, 108, 101, 62]⟩ ⟨#[60, 47, 116, 105, 116, 108, 101, 62]⟩ w (by rw [bl_size]; omega) (by decide) (by decide) (by decide))
  have P1 : Hid (∀ w, Calls Tryz.prog 49 #[.string (bl A.1)] w fun e w' => e = .returned (.tuple #[.string (bl (plA A.1).1), .bool (plA A.1).2]) ∧ Below w.heap.size w w') := Lib.hid (fun w => by have := specPlain_any (bl A.1) w; rw [plV_A] at this; exact this)
  have P2 : Hid (∀ w, Calls Tryz.prog 49 #[.string (bl B.1)] w fun e w' => e = .returned (.tuple #[.string (bl (plA B.1).1), .bool (plA B.1).2]) ∧ Below w.heap.size w w') := Lib.hid (fun w => by have := specPlain_any (bl B.1) w; rw [plV_A] at this; exact this)
  have HN : Hid (pHead s.data.toList = none → o = none) := Lib.hid (fun h => by rw [ho]; exact rdF_head h)
  have HS : Hid (∀ u t r, pHead s.data.toList = some (u, t, r) → (o = (pItems r).bind fun its => if fdB (bl u) (bl t) its = true then some ⟨bl u, bl t, its⟩ else none) ∧ (∀ its, pItems r = some its → ((fdX (bl u) (bl t) its).toList == s.toList) = fdB (bl u) (bl t) its)) := Lib.hid (fun u t r hp => by
    refine ⟨by rw [ho]; exact rdF_items hs hp, fun its hi => ?_⟩
    have h := ref_end hp hi
    rw [Bool.eq_iff_iff, beq_iff_eq]
    constructor
    · intro he
      refine h.1 ?_
      rw [ByteArray.toList_eq, ByteArray.toList_eq] at he
      rw [← bl_back (fdX (bl u) (bl t) its), he, bl_back]
    · intro he
      rw [h.2 he])
  have hul : (bl (plA A.1).1).size ≤ maxLen := by rw [bl_size]; have := plA_len A.1; unfold maxLen; omega
  have htl : (bl (plA B.1).1).size ≤ maxLen := by rw [bl_size]; have := plA_len B.1; unfold maxLen; omega
  have hrl : B.2.1.length ≤ 4000 := by omega
  clear ho hs hAl hBl hsl
  obtain ⟨a1, a2, a3⟩ := A
  obtain ⟨b1, b2, b3⟩ := B
  clear hA hB2
  dsimp only at hph T1 T2 P1 P2 hul htl hrl
  generalize plA a1 = p1 at hph P1 hul
  generalize plA b1 = p2 at hph P2 htl
  obtain ⟨pu, f1⟩ := p1
  obtain ⟨pt, f2⟩ := p2
  dsimp only at hph P1 P2 hul htl
  have HPH := Lib.hid hph
  clear hph
  go_enter Tryz.func15, Tryz.ntmps15
  go_wp2_with fail
  generalize w.alloc (.cells #[.string ⟨#[]⟩, .string ⟨#[]⟩, .slice none 0 0] 26) = W0 at hz hB ⊢
  refine (T1.out _).mono ?_
  rintro e w1 ⟨rfl, hb⟩
  replace hz := hz.keep hb hz.lt
  replace hB := Below.trans hB (hb.mono hB.size)
  clear hb
  go_wp2_with fail
  refine (T2.out _).mono ?_
  rintro e w2 ⟨rfl, hb⟩
  replace hz := hz.keep hb hz.lt
  replace hB := Below.trans hB (hb.mono hB.size)
  clear hb
  go_wp2_with fail
  refine (P1.out _).mono ?_
  rintro e w3 ⟨rfl, hb⟩
  replace hz := hz.keep hb hz.lt
  replace hB := Below.trans hB (hb.mono hB.size)
  clear hb
  go_wp2_with fail
  refine (P2.out _).mono ?_
  rintro e w4 ⟨rfl, hb⟩
  replace hz := hz.keep hb hz.lt
  replace hB := Below.trans hB (hb.mono hB.size)
  clear hb
  clear T1 T2 P1 P2
  have hwl : w.heap.size < w4.heap.size := hz.lt
  have hx := Box.new w4 #[.string (bl pu), .string (bl pt), .slice none 0 0] 26
  have hia : Below w4.heap.size w4 (w4.alloc (.cells #[.string (bl pu), .string (bl pt), .slice none 0 0] 26)) := (Below.refl _ _).alloc (Nat.le_refl _) _
  replace hz := hz.keep hia hz.lt
  replace hB := hB.trans (hia.mono hB.size)
  clear hia
  cases a3 with
  | false =>
    have hO := HN.out (HPH.out.trans (if_neg (by simp)))
    clear HN HS HPH hx hul htl hrl
    go_wp2
    go_loopw [5] (fun r wr => Box wr w.heap.size #[.string ⟨#[]⟩, .string ⟨#[]⟩, .slice none 0 0] 26 ∧ Below w.heap.size w wr) (fun _ _ => 0)
    case atStart => exact ⟨hz, hB⟩
    case round =>
      clear hz hB
      obtain ⟨hz, hB⟩ := hrel
      have z0 := hz.cell 0 _ rfl
      have z1 := hz.cell 1 _ rfl
      have z2 := hz.cell 2 _ rfl
      have f0 := hz.free 0
      have f1 := hz.free 1
      have f2 := hz.free 2
      go_wp2
      refine bodyPost_ret (results_fd2 rfl _ _ _ ⟨#[]⟩ ⟨#[]⟩ (.slice none 0 0) _ rfl rfl (put3it _ _ _ _ _ hz rfl)) rfl ?_
      exact ⟨ret_zero hO, hB.trans (below3it _ w.heap.size _ (Nat.le_refl _) _ _ _)⟩
  | true =>
    cases b3 with
    | false =>
      have hO := HN.out (HPH.out.trans (if_neg (by simp)))
      clear HN HS HPH hx hul htl hrl
      go_wp2
      go_loopw [5] (fun r wr => Box wr w.heap.size #[.string ⟨#[]⟩, .string ⟨#[]⟩, .slice none 0 0] 26 ∧ Below w.heap.size w wr) (fun _ _ => 0)
      case atStart => exact ⟨hz, hB⟩
      case round =>
        clear hz hB
        obtain ⟨hz, hB⟩ := hrel
        have z0 := hz.cell 0 _ rfl
        have z1 := hz.cell 1 _ rfl
        have z2 := hz.cell 2 _ rfl
        have f0 := hz.free 0
        have f1 := hz.free 1
        have f2 := hz.free 2
        go_wp2
        refine bodyPost_ret (results_fd2 rfl _ _ _ ⟨#[]⟩ ⟨#[]⟩ (.slice none 0 0) _ rfl rfl (put3it _ _ _ _ _ hz rfl)) rfl ?_
        exact ⟨ret_zero hO, hB.trans (below3it _ w.heap.size _ (Nat.le_refl _) _ _ _)⟩
    | true =>
      cases f1 with
      | false =>
        have hO := HN.out (HPH.out.trans (if_neg (by simp)))
        clear HN HS HPH hx hul htl hrl
        go_wp2
        go_loopw [5] (fun r wr => Box wr w.heap.size #[.string ⟨#[]⟩, .string ⟨#[]⟩, .slice none 0 0] 26 ∧ Below w.heap.size w wr) (fun _ _ => 0)
        case atStart => exact ⟨hz, hB⟩
        case round =>
          clear hz hB
          obtain ⟨hz, hB⟩ := hrel
          have z0 := hz.cell 0 _ rfl
          have z1 := hz.cell 1 _ rfl
          have z2 := hz.cell 2 _ rfl
          have f0 := hz.free 0
          have f1 := hz.free 1
          have f2 := hz.free 2
          go_wp2
          refine bodyPost_ret (results_fd2 rfl _ _ _ ⟨#[]⟩ ⟨#[]⟩ (.slice none 0 0) _ rfl rfl (put3it _ _ _ _ _ hz rfl)) rfl ?_
          exact ⟨ret_zero hO, hB.trans (below3it _ w.heap.size _ (Nat.le_refl _) _ _ _)⟩
      | true =>
        cases f2 with
        | false =>
          have hO := HN.out (HPH.out.trans (if_neg (by simp)))
          clear HN HS HPH hx hul htl hrl
          go_wp2
          go_loopw [5] (fun r wr => Box wr w.heap.size #[.string ⟨#[]⟩, .string ⟨#[]⟩, .slice none 0 0] 26 ∧ Below w.heap.size w wr) (fun _ _ => 0)
          case atStart => exact ⟨hz, hB⟩
          case round =>
            clear hz hB
            obtain ⟨hz, hB⟩ := hrel
            have z0 := hz.cell 0 _ rfl
            have z1 := hz.cell 1 _ rfl
            have z2 := hz.cell 2 _ rfl
            have f0 := hz.free 0
            have f1 := hz.free 1
            have f2 := hz.free 2
            go_wp2
            refine bodyPost_ret (results_fd2 rfl _ _ _ ⟨#[]⟩ ⟨#[]⟩ (.slice none 0 0) _ rfl rfl (put3it _ _ _ _ _ hz rfl)) rfl ?_
            exact ⟨ret_zero hO, hB.trans (below3it _ w.heap.size _ (Nat.le_refl _) _ _ _)⟩
        | true =>
          obtain ⟨hO, hE⟩ := HS.out _ _ _ (HPH.out.trans (if_pos (by simp)))
          have HO := Lib.hid hO
          have HE := Lib.hid hE
          clear hO hE HN HS HPH
          have hSz : w4.heap.size + 1 ≤ (w4.alloc (.cells #[.string (bl pu), .string (bl pt), .slice none 0 0] 26)).heap.size := by simp
          have hw0 := OwnR.nil (k := 3) (C := itC) 55 (w4.alloc (.cells #[.string (bl pu), .string (bl pt), .slice none 0 0] 26)) (w4.heap.size + 1)
          generalize bl pu = U at hul HO HE hx hz hB hSz hw0 ⊢
          generalize bl pt = T at htl HO HE hx hz hB hSz hw0 ⊢
          go_wp2
          generalize w4.alloc (.cells #[.string U, .string T, .slice none 0 0] 26) = W4 at hx hz hB hSz hw0 ⊢
          generalize w4.heap.size = S at hx hSz hwl hw0 ⊢
          go_loopw [5] (fun r wr => ∃ (R : ByteArray) (acc : List It) (v : Value), r = .string R ∧ R.size + acc.length ≤ 4000 ∧ Hid (pItems b2 = (pItems R.data.toList).map (fun z => acc ++ z)) ∧ Hid (∀ x ∈ acc, x.id.size ≤ maxLen ∧ x.ti.size ≤ maxLen) ∧ Box wr S #[.string U, .string T, v] 26 ∧ OwnR 55 3 itC wr (S + 1) v acc ∧ Box wr w.heap.size #[.string ⟨#[]⟩, .string ⟨#[]⟩, .slice none 0 0] 26 ∧ Below w.heap.size w wr ∧ S + 1 ≤ wr.heap.size) (fun r _ => match r with | .string b => b.size | _ => 0)
          case atStart => exact ⟨bl b2, [], _, rfl, by rw [bl_size]; simpa using hrl, Lib.hid (by simp), Lib.hid (by simp), hx, hw0, hz, hB, hSz⟩
          case round =>
            clear hx hw0 hz hB hSz hrl
            obtain ⟨R, acc, v, rfl, hRs, HP, HZ, hx, hown, hz, hB, hSz⟩ := hrel
            obtain ⟨oa, oc, rfl⟩ := hown.slice
            by_cases hend : R.data.toList = fS3
            case pos =>
              obtain rfl : R = ⟨#[60, 47, 102, 101, 101, 100, 62]⟩ := by rw [← bl_back R, hend]; rfl
              have hpi : pItems b2 = some acc := by
                have h1 := HP.out
                rwa [hend, pItems_end, Option.map_some, List.append_nil] at h1
              have HOe : Hid (o = if fdB U T acc = true then some ⟨U, T, acc⟩ else none) := Lib.hid (by rw [HO.out, hpi, Option.bind_some])
              have hcmp := HE.out _ hpi
              have HC := Lib.hid (specFeedText_any U T (.slice oa acc.length oc) acc wr hul htl ⟨hown.at itC_len, HZ.out⟩)
              clear HP HO HE HZ hRs hend hpi hul htl
              generalize fdX U T acc = X at HC hcmp
              generalize fdB U T acc = F at HOe hcmp
              have x0 := hx.cell 0 _ rfl
              have x1 := hx.cell 1 _ rfl
              have x2 := hx.cell 2 _ rfl
              go_wp2_with fail
              clear x0 x1 x2
              refine HC.out.mono ?_
              rintro e w5 ⟨rfl, hb5⟩
              replace hx := hx.keep hb5 hx.lt
              replace hz := hz.keep hb5 hz.lt
              replace hown := hown.keep hb5 (Nat.le_refl _)
              replace hB := hB.trans (hb5.mono hB.size)
              clear hb5 HC
              cases F with
              | false =>
                have hO : o = none := HOe.out
                clear hown HOe
                have z0 := hz.cell 0 _ rfl
                have z1 := hz.cell 1 _ rfl
                have z2 := hz.cell 2 _ rfl
                have f0 := hz.free 0
                have f1 := hz.free 1
                have f2 := hz.free 2
                go_wp2
                refine bodyPost_ret (results_fd2 rfl _ _ _ ⟨#[]⟩ ⟨#[]⟩ (.slice none 0 0) _ rfl rfl (put3it _ _ _ _ _ hz rfl)) rfl ?_
                exact ⟨ret_zero hO, hB.trans (below3it _ w.heap.size _ (Nat.le_refl _) _ _ _)⟩
              | true =>
                have hO : o = some ⟨U, T, acc⟩ := HOe.out
                have hlt3 : w.heap.size < S := hwl
                have hown2 := ((hown.other ⟨w.heap.size, 0, none⟩ (.string U) (show w.heap.size < S + 1 by omega)).other ⟨w.heap.size, 1, none⟩ (.string T) (show w.heap.size < S + 1 by omega)).other ⟨w.heap.size, 2, none⟩ (.slice oa acc.length oc) (show w.heap.size < S + 1 by omega)
                replace hown2 := hown2.base_mono (show w.heap.size ≤ S + 1 by omega)
                have hne1 : w.heap.size ≠ S := by omega
                clear HOe
                have x0 := hx.cell 0 _ rfl
                have x1 := hx.cell 1 _ rfl
                have x2 := hx.cell 2 _ rfl
                have z0 := hz.cell 0 _ rfl
                have z1 := hz.cell 1 _ rfl
                have z2 := hz.cell 2 _ rfl
                have f0 := hz.free 0
                have f1 := hz.free 1
                have f2 := hz.free 2
                go_wp2
                refine bodyPost_ret (results_fd2 rfl _ _ _ U T (.slice oa acc.length oc) _ rfl rfl (put3it _ _ _ _ _ hz rfl)) rfl ?_
                exact ⟨ret_pair hO hown2, hB.trans (below3it _ w.heap.size _ (Nat.le_refl _) _ _ _)⟩
            have hne : (R.toList == [60, 47, 102, 101, 101, 100, 62]) = false := by rw [ByteArray.toList_eq]; exact beq_eq_false_iff_ne.2 hend
            have HPn : Hid (pItem R.data.toList = none → o = none) := Lib.hid (fun h => by
              have h1 := HP.out
              rw [pItems_none hend h] at h1
              rw [HO.out, h1]; rfl)
            have HPs : Hid (∀ x r, pItem R.data.toList = some (x, r) → (pItems b2 = (pItems r).map (fun z => (acc ++ [x]) ++ z)) ∧ (x.id.size ≤ maxLen ∧ x.ti.size ≤ maxLen) ∧ r.length + 1 ≤ R.size) := Lib.hid (fun x r h => by
              have k2 : R.data.toList.length = R.size := by simp
              have h2 := pItem_sz h (by omega)
              refine ⟨?_, h2.1, by omega⟩
              rw [HP.out, pItems_cons hend h, Option.map_map]
              congr 1
              funext z
              simp)
            have hRl : R.data.toList.length = R.size := by simp
            obtain ⟨A, hA⟩ : ∃ A, A = tk R.data.toList iL1 iL2 := ⟨_, rfl⟩
            obtain ⟨B, hBe⟩ : ∃ B, B = tk A.2.1 [] iL3 := ⟨_, rfl⟩
            obtain ⟨C, hC⟩ : ∃ C, C = tk B.2.1 [] iL4 := ⟨_, rfl⟩
            have hpi := pItem_ref R.data.toList A B C hA hBe hC
            have hAl := tk_len R.data.toList iL1 iL2
            rw [← hA] at hAl
            have hBl := tk_len A.2.1 [] iL3
            rw [← hBe] at hBl
            have T1 : Hid (∀ w, Calls Tryz.prog 48 #[.string R, .string ⟨#[60, 105, 116, 101, 109, 32, 105, 100, 61, 34]⟩, .string ⟨#[34, 32, 100, 97, 116, 101, 61, 34]⟩] w fun e w' => e = .returned (.tuple #[.string (bl A.1), .string (bl A.2.1), .bool A.2.2]) ∧ Below w.heap.size w w') := Lib.hid (fun w => by rw [hA]; exact l8Take_any R ⟨#[60, 105, 116, 101, 109, 32, 105, 100, 61, 34]⟩ ⟨#[34, 32, 100, 97, 116, 101, 61, 34]⟩ w (by omega) (by decide) (by decide) (by decide))
            have T2 : Hid (∀ w, Calls Tryz.prog 48 #[.string (bl A.2.1), .string ⟨#[]⟩, .string ⟨#[34, 62]⟩] w fun e w' => e = .returned (.tuple #[.string (bl B.1), .string (bl B.2.1), .bool B.2.2]) ∧ Below w.heap.size w w') := Lib.hid (fun w => by rw [hBe]; exact l8Take_any (bl A.2.1) ⟨#[]⟩ ⟨#[34, 62]⟩ w (by rw [bl_size]; omega) (by decide) (by decide) (by decide))
            have T3 : Hid (∀ w, Calls Tryz.prog 48 #[.string (bl B.2.1), .string ⟨#[]⟩, .string ⟨#[60, 47, 105, 116, 101, 109, 62]⟩] w fun e w' => e = .returned (.tuple #[.string (bl C.1), .string (bl C.2.1), .bool C.2.2]) ∧ Below w.heap.size w w') := Lib.hid (fun w => by rw [hC]; exact l8Take_any (bl B.2.1) ⟨#[]⟩ ⟨#[60, 47, 105, 116, 101, 109, 62]⟩ w (by rw [bl_size]; omega) (by decide) (by decide) (by decide))
            have P1 : Hid (∀ w, Calls Tryz.prog 49 #[.string (bl A.1)] w fun e w' => e = .returned (.tuple #[.string (bl (plA A.1).1), .bool (plA A.1).2]) ∧ Below w.heap.size w w') := Lib.hid (fun w => by have := specPlain_any (bl A.1) w; rw [plV_A] at this; exact this)
            have P2 : Hid (∀ w, Calls Tryz.prog 49 #[.string (bl C.1)] w fun e w' => e = .returned (.tuple #[.string (bl (plA C.1).1), .bool (plA C.1).2]) ∧ Below w.heap.size w w') := Lib.hid (fun w => by have := specPlain_any (bl C.1) w; rw [plV_A] at this; exact this)
            have RD := Lib.hid (fun w => specReadDate_any (bl B.1) w)
            obtain ⟨dy, dm, dd, hdv, hdr⟩ := rdV_date (bl B.1)
            have HDN : Hid (rdOk (bl B.1) = true → dN (rY (bl B.1)) (rM (bl B.1)) (rD (bl B.1)) = dN dy dm dd ∧ 1970 ≤ dy ∧ dy ≤ 2517 ∧ 1 ≤ dm ∧ dm ≤ 12 ∧ 1 ≤ dd ∧ dd ≤ 31) := Lib.hid (fun h => by
              obtain ⟨e1, e2, e3⟩ := hdr h
              have hk := ((rdOk_iff _).1 h).2.2.2
              rw [← e1, ← e2, ← e3] at hk ⊢
              obtain ⟨q1, q2, q3, q4, q5, q6, q7⟩ := (dOk_iff _ _ _).1 hk
              have := dIM_bd dy dm
              exact ⟨rfl, q1, q2, q3, q4, q5, by omega⟩)
            rw [hdv] at RD
            clear hdv hdr hA hBe hC hAl hBl hRl HP hend
            obtain ⟨a1, a2, a3⟩ := A
            obtain ⟨b1, c0, b3⟩ := B
            obtain ⟨c1, c2, c3⟩ := C
            dsimp only at hpi T1 T2 T3 P1 P2 RD HDN
            generalize dN (rY (bl b1)) (rM (bl b1)) (rD (bl b1)) = dn at hpi HDN
            generalize rdOk (bl b1) = gg at hpi RD HDN
            generalize plA a1 = p1 at hpi P1
            generalize plA c1 = p2 at hpi P2
            obtain ⟨pi, f1⟩ := p1
            obtain ⟨pj, f2⟩ := p2
            dsimp only at hpi P1 P2
            have HPI := Lib.hid hpi
            clear hpi
            go_wp2_with fail
            refine (T1.out _).mono ?_
            rintro e w1 ⟨rfl, hb⟩
            replace hx := hx.keep hb hx.lt
            replace hz := hz.keep hb hz.lt
            replace hown := hown.keep hb (Nat.le_refl _)
            replace hB := Below.trans hB (hb.mono hB.size)
            clear hb
            go_wp2_with fail
            refine (T2.out _).mono ?_
            rintro e w2 ⟨rfl, hb⟩
            replace hx := hx.keep hb hx.lt
            replace hz := hz.keep hb hz.lt
            replace hown := hown.keep hb (Nat.le_refl _)
            replace hB := Below.trans hB (hb.mono hB.size)
            clear hb
            go_wp2_with fail
            refine (T3.out _).mono ?_
            rintro e w3 ⟨rfl, hb⟩
            replace hx := hx.keep hb hx.lt
            replace hz := hz.keep hb hz.lt
            replace hown := hown.keep hb (Nat.le_refl _)
            replace hB := Below.trans hB (hb.mono hB.size)
            clear hb
            go_wp2_with fail
            refine (P1.out _).mono ?_
            rintro e w5 ⟨rfl, hb⟩
            replace hx := hx.keep hb hx.lt
            replace hz := hz.keep hb hz.lt
            replace hown := hown.keep hb (Nat.le_refl _)
            replace hB := Below.trans hB (hb.mono hB.size)
            clear hb
            go_wp2_with fail
            refine (P2.out _).mono ?_
            rintro e w6 ⟨rfl, hb⟩
            replace hx := hx.keep hb hx.lt
            replace hz := hz.keep hb hz.lt
            replace hown := hown.keep hb (Nat.le_refl _)
            replace hB := Below.trans hB (hb.mono hB.size)
            clear hb
            go_wp2_with fail
            refine (RD.out _).mono ?_
            rintro e w7 ⟨rfl, hb⟩
            replace hx := hx.keep hb hx.lt
            replace hz := hz.keep hb hz.lt
            replace hown := hown.keep hb (Nat.le_refl _)
            replace hB := Below.trans hB (hb.mono hB.size)
            clear hb
            clear T1 T2 T3 P1 P2 RD
            have hS7 : S + 1 ≤ w7.heap.size := hx.lt
            have hdt := Box.new w7 #[.int .i64 dy, .int .i64 dm, .int .i64 dd] 74
            have hia : Below w7.heap.size w7 (w7.alloc (.cells #[.int .i64 dy, .int .i64 dm, .int .i64 dd] 74)) := (Below.refl _ _).alloc (Nat.le_refl _) _
            replace hx := hx.keep hia hx.lt
            replace hz := hz.keep hia hz.lt
            have hob : ∀ g, (Value.slice oa acc.length oc).ownBlock = some g → g < w7.heap.size := fun g hg => (World.ownsRow.lt hown g hg).2
            replace hown := hown.keep hia (Nat.le_refl _)
            replace hB := hB.trans (hia.mono hB.size)
            clear hia hSz
            cases a3 with
            | false =>
              have hO := HPn.out (HPI.out.trans (if_neg (by simp)))
              clear HPn HPs HPI hown HO HE HZ hul htl HDN hx hdt
              have z0 := hz.cell 0 _ rfl
              have z1 := hz.cell 1 _ rfl
              have z2 := hz.cell 2 _ rfl
              have f0 := hz.free 0
              have f1 := hz.free 1
              have f2 := hz.free 2
              go_wp2
              refine bodyPost_ret (results_fd2 rfl _ _ _ ⟨#[]⟩ ⟨#[]⟩ (.slice none 0 0) _ rfl rfl (put3it _ _ _ _ _ hz rfl)) rfl ?_
              exact ⟨ret_zero hO, hB.trans (below3it _ w.heap.size _ (Nat.le_refl _) _ _ _)⟩
            | true =>
              cases b3 with
              | false =>
                have hO := HPn.out (HPI.out.trans (if_neg (by simp)))
                clear HPn HPs HPI hown HO HE HZ hul htl HDN hx hdt
                have z0 := hz.cell 0 _ rfl
                have z1 := hz.cell 1 _ rfl
                have z2 := hz.cell 2 _ rfl
                have f0 := hz.free 0
                have f1 := hz.free 1
                have f2 := hz.free 2
                go_wp2
                refine bodyPost_ret (results_fd2 rfl _ _ _ ⟨#[]⟩ ⟨#[]⟩ (.slice none 0 0) _ rfl rfl (put3it _ _ _ _ _ hz rfl)) rfl ?_
                exact ⟨ret_zero hO, hB.trans (below3it _ w.heap.size _ (Nat.le_refl _) _ _ _)⟩
              | true =>
                cases c3 with
                | false =>
                  have hO := HPn.out (HPI.out.trans (if_neg (by simp)))
                  clear HPn HPs HPI hown HO HE HZ hul htl HDN hx hdt
                  have z0 := hz.cell 0 _ rfl
                  have z1 := hz.cell 1 _ rfl
                  have z2 := hz.cell 2 _ rfl
                  have f0 := hz.free 0
                  have f1 := hz.free 1
                  have f2 := hz.free 2
                  go_wp2
                  refine bodyPost_ret (results_fd2 rfl _ _ _ ⟨#[]⟩ ⟨#[]⟩ (.slice none 0 0) _ rfl rfl (put3it _ _ _ _ _ hz rfl)) rfl ?_
                  exact ⟨ret_zero hO, hB.trans (below3it _ w.heap.size _ (Nat.le_refl _) _ _ _)⟩
                | true =>
                  cases f1 with
                  | false =>
                    have hO := HPn.out (HPI.out.trans (if_neg (by simp)))
                    clear HPn HPs HPI hown HO HE HZ hul htl HDN hx hdt
                    have z0 := hz.cell 0 _ rfl
                    have z1 := hz.cell 1 _ rfl
                    have z2 := hz.cell 2 _ rfl
                    have f0 := hz.free 0
                    have f1 := hz.free 1
                    have f2 := hz.free 2
                    go_wp2
                    refine bodyPost_ret (results_fd2 rfl _ _ _ ⟨#[]⟩ ⟨#[]⟩ (.slice none 0 0) _ rfl rfl (put3it _ _ _ _ _ hz rfl)) rfl ?_
                    exact ⟨ret_zero hO, hB.trans (below3it _ w.heap.size _ (Nat.le_refl _) _ _ _)⟩
                  | true =>
                    cases f2 with
                    | false =>
                      have hO := HPn.out (HPI.out.trans (if_neg (by simp)))
                      clear HPn HPs HPI hown HO HE HZ hul htl HDN hx hdt
                      have z0 := hz.cell 0 _ rfl
                      have z1 := hz.cell 1 _ rfl
                      have z2 := hz.cell 2 _ rfl
                      have f0 := hz.free 0
                      have f1 := hz.free 1
                      have f2 := hz.free 2
                      go_wp2
                      refine bodyPost_ret (results_fd2 rfl _ _ _ ⟨#[]⟩ ⟨#[]⟩ (.slice none 0 0) _ rfl rfl (put3it _ _ _ _ _ hz rfl)) rfl ?_
                      exact ⟨ret_zero hO, hB.trans (below3it _ w.heap.size _ (Nat.le_refl _) _ _ _)⟩
                    | true =>
                      cases gg with
                      | false =>
                        have hO := HPn.out (HPI.out.trans (if_neg (by simp)))
                        clear HPn HPs HPI hown HO HE HZ hul htl HDN hx hdt
                        have z0 := hz.cell 0 _ rfl
                        have z1 := hz.cell 1 _ rfl
                        have z2 := hz.cell 2 _ rfl
                        have f0 := hz.free 0
                        have f1 := hz.free 1
                        have f2 := hz.free 2
                        go_wp2
                        refine bodyPost_ret (results_fd2 rfl _ _ _ ⟨#[]⟩ ⟨#[]⟩ (.slice none 0 0) _ rfl rfl (put3it _ _ _ _ _ hz rfl)) rfl ?_
                        exact ⟨ret_zero hO, hB.trans (below3it _ w.heap.size _ (Nat.le_refl _) _ _ _)⟩
                      | true =>
                        obtain ⟨hdn, q1, q2, q3, q4, q5, q6⟩ := HDN.out (by first | rfl | trivial)
                        subst hdn
                        obtain ⟨hpn, hsz, hlr⟩ := HPs.out _ _ (HPI.out.trans (if_pos (by simp)))
                        dsimp only at hsz
                        have HL7 := Lib.hid (fun w => l7Day_any dy dm dd w q1 q2 q3 q4 q5 q6)
                        have HPN := Lib.hid hpn
                        have HZ2 : Hid (∀ x ∈ acc ++ [(⟨bl pi, bl pj, dN dy dm dd⟩ : It)], x.id.size ≤ maxLen ∧ x.ti.size ≤ maxLen) := Lib.hid (fun x hx => by
                          rcases List.mem_append.1 hx with h | h
                          · exact HZ.out x h
                          · rw [List.mem_singleton.1 h]; exact hsz)
                        clear HPn HPs hpn HZ hsz HPI HDN q1 q2 q3 q4 q5 q6 HO HE hul htl
                        generalize dN dy dm dd = dn at HPN HZ2 HL7
                        generalize bl pi = PI at HPN HZ2 ⊢
                        generalize bl pj = PJ at HPN HZ2 ⊢
                        go_wp2
                        generalize w7.alloc (.cells #[.int .i64 dy, .int .i64 dm, .int .i64 dd] 74) = W8 at hx hz hown hB hdt ⊢
                        generalize w7.heap.size = GD at hdt hS7 hob ⊢
                        refine wp_region_T (fun _ => True) (fun v => Box v S #[.string U, .string T, .slice oa acc.length oc] 26 ∧ Box v GD #[.int .i64 dy, .int .i64 dm, .int .i64 dd] 74) 10 (by kernel_rfl) 11 rfl ?_
                        replace hx : Box W8.drew S _ _ := Box.drew hx
                        replace hz : Box W8.drew w.heap.size _ _ := Box.drew hz
                        replace hdt : Box W8.drew GD _ _ := Box.drew hdt
                        replace hown := hown.drew
                        replace hB := Below.drew hB
                        generalize W8.drew = W9 at hx hz hdt hown hB ⊢
                        refine wpAnyT_takesB (md := .any) 6 (by kernel_rfl) (by intro d v c a w h; cases d <;> exact h) [0, 1, 2, 3, 4] _ _ _ (by decide) (by kernel_rfl) (by kernel_rfl) (by kernel_rfl) ⟨trivial, fun _ => ⟨hx, hdt⟩⟩ ?_
                        simp only [pick, List.filterMap_cons, List.filterMap_nil, List.getElem?_cons_zero, List.getElem?_cons_succ]
                        refine wpIf_step (.pointer (some ⟨S, 2, none⟩)) (by kernel_rfl) (fun w hw => by go_simp) ?_
                        refine wpIf_step (.slice oa acc.length oc) (by kernel_rfl) (fun w hw => by have j2 := hw.2.1.cell 2 _ rfl; go_simp) ?_
                        refine wpIf_step (.string PI) (by kernel_rfl) (fun w hw => by go_simp) ?_
                        refine wpIf_step (.string PJ) (by kernel_rfl) (fun w hw => by go_simp) ?_
                        refine wpIf_step (.agg #[.int .i64 dy, .int .i64 dm, .int .i64 dd]) (by kernel_rfl) (fun w hw => by have j0 := hw.2.2.cell 0 _ rfl; have j1 := hw.2.2.cell 1 _ rfl; have j2 := hw.2.2.cell 2 _ rfl; go_simp) ?_
                        refine wpIf_nil (fun hSx => ?_)
                        clear hSx
                        refine wpAnyT_one 5 5 (by kernel_rfl) rfl (by kernel_rfl) (fun K hK => ?_)
                        go_simp
                        refine (HL7.out _).mono ?_
                        rintro e w10 ⟨rfl, hb⟩
                        replace hx := hx.keep hb hx.lt
                        replace hz := hz.keep hb hz.lt
                        replace hdt := hdt.keep hb hdt.lt
                        replace hown := hown.keep hb (Nat.le_refl _)
                        replace hB := Below.trans hB (hb.mono hB.size)
                        clear hb HL7
                        refine hK _ _ ⟨trivial, fun _ => ⟨hx, hdt⟩⟩ (fun hSx => ?_)
                        clear hK K hSx
                        refine wpAnyT_takesB (md := .any) 4 (by kernel_rfl) (by intro d v c a w h; cases d <;> exact h) [6] _ _ _ (by decide) (by kernel_rfl) (by kernel_rfl) (by kernel_rfl) ⟨trivial, fun _ => ⟨hx, hdt⟩⟩ ?_
                        simp only [pick, List.filterMap_cons, List.filterMap_nil, List.getElem?_cons_zero, List.getElem?_cons_succ]
                        refine wpIf_step (.agg #[.string PI, .string PJ, .int .i64 dn]) (by kernel_rfl) (fun w hw => by go_simp) ?_
                        refine wpIf_nil (fun hSx => ?_)
                        clear hSx
                        refine wpAnyT_one 7 3 (by kernel_rfl) rfl (by kernel_rfl) (fun K hK => ?_)
                        go_simp
                        have hOn := one_recT itC_len w10 55 (⟨PI, PJ, dn⟩ : It) #[.string PI, .string PJ, .int .i64 dn] rfl
                        have hS10 : S + 1 ≤ w10.heap.size := hx.lt
                        have hgl : w.heap.size < S + 1 := by omega
                        replace hx := hx.alloc (.cells #[.string PI, .string PJ, .int .i64 dn] 55)
                        replace hz := hz.alloc (.cells #[.string PI, .string PJ, .int .i64 dn] 55)
                        replace hdt := hdt.alloc (.cells #[.string PI, .string PJ, .int .i64 dn] 55)
                        replace hown := hown.alloc (.cells #[.string PI, .string PJ, .int .i64 dn] 55)
                        replace hB := Below.alloc hB hB.size (.cells #[.string PI, .string PJ, .int .i64 dn] 55)
                        have hs11 : S + 1 ≤ (w10.alloc (.cells #[.string PI, .string PJ, .int .i64 dn] 55)).heap.size := by simp; omega
                        have hs12 : w10.heap.size + 1 = (w10.alloc (.cells #[.string PI, .string PJ, .int .i64 dn] 55)).heap.size := by simp
                        refine hK _ _ ⟨trivial, fun _ => ⟨hx, hdt⟩⟩ (fun hSx => ?_)
                        clear hK K hSx
                        obtain ⟨v3, w11, hrun, hown1, hg1⟩ := appR_run (P := Tryz.prog) (t := 24) itC_len (by decide) Tryz.underlying24 Tryz.infoItR rfl (by decide) hown hOn (fun y _ => itC_one y) (by simp; omega) hs11 24
                        have hgb : Below (S + 1) _ w11 := gb_BelowT hg1 hs11 (ownBlock_base hown)
                        have hx7 := hx.keep hgb (Nat.lt_succ_self S)
                        have hz7 := hz.keep hgb hgl
                        have hdt8 : Box w11 GD #[.int .i64 dy, .int .i64 dm, .int .i64 dd] 74 := (hg1.block GD hdt.lt (fun e => by have := hob GD e.symm; omega)).trans hdt
                        obtain ⟨oa1, oc1, rfl⟩ := hown1.slice
                        generalize hn1 : (acc ++ [(⟨PI, PJ, dn⟩ : It)]).length = n1 at hown1 hrun
                        clear hn1
                        replace hB := hB.trans (hgb.mono (Nat.le_of_lt hgl))
                        refine wpAnyT_one 8 2 (by kernel_rfl) rfl (by kernel_rfl) (fun K hK => ?_)
                        refine wp_appF 24 (.tmp 131) (.tmp 137) rfl _ _ (.slice oa1 n1 oc1) rfl rfl hrun ?_
                        go_simp
                        refine hK _ _ ⟨trivial, fun _ => ⟨hx7, hdt8⟩⟩ (fun hSx => ?_)
                        clear hK K hSx hx hdt hz hrun hg1 hgb hown
                        refine wpAnyT_takesB (md := .any) 1 (by kernel_rfl) (by intro d v c a w h; cases d <;> exact h) [9] _ _ _ (by decide) (by kernel_rfl) (by kernel_rfl) (by kernel_rfl) ⟨trivial, fun _ => ⟨hx7, hdt8⟩⟩ ?_
                        simp only [pick, List.filterMap_cons, List.filterMap_nil, List.getElem?_cons_zero, List.getElem?_cons_succ]
                        refine wpIf_step (.pointer (some ⟨S, 2, none⟩)) (by kernel_rfl) (fun w hw => by go_simp) ?_
                        refine wpIf_nil (fun hSx => ?_)
                        clear hSx hdt8
                        have y2 := hx7.cell 2 _ rfl
                        have g2 := hx7.free 2
                        refine wpAnyT_one 10 0 (by kernel_rfl) rfl (by kernel_rfl) (fun K hK => ?_)
                        go_simp
                        refine hK _ _ ⟨trivial, fun h => by cases h⟩ (fun hSx => ?_)
                        clear hK K hSx y2 g2
                        refine wpAnyT_over (by kernel_rfl) ?_
                        have hS12 : S + 1 ≤ w11.heap.size := hx7.lt
                        have hlt3 : w.heap.size < S := hwl
                        have hx8 : Box (w11.setCell ⟨S, 2, none⟩ (.slice oa1 n1 oc1)) S #[.string U, .string T, .slice oa1 n1 oc1] 26 := hx7.set 2 (.slice oa1 n1 oc1)
                        have hown8 := hown1.other ⟨S, 2, none⟩ (.slice oa1 n1 oc1) (Nat.lt_succ_self S)
                        have hbe : Below S w11 (w11.setCell ⟨S, 2, none⟩ (.slice oa1 n1 oc1)) := (Below.refl _ _).setCell (p := ⟨S, 2, none⟩) (Nat.le_refl _) _
                        have hz8 := hz7.keep hbe hlt3
                        have hB8 := hB.trans (hbe.mono (Nat.le_of_lt hlt3))
                        have hS13 : S + 1 ≤ (w11.setCell ⟨S, 2, none⟩ (.slice oa1 n1 oc1)).heap.size := by simpa using hS12
                        clear hx7 hz7 hown1 hB hbe hob
                        generalize w11.setCell ⟨S, 2, none⟩ (.slice oa1 n1 oc1) = W12 at hx8 hown8 hz8 hB8 hS13 ⊢
                        go_wp2
                        go_roundw
                        case rel => exact ⟨bl c2, acc ++ [⟨PI, PJ, dn⟩], .slice oa1 n1 oc1, rfl, by rw [bl_size, List.length_append, List.length_singleton]; omega, HPN, HZ2, hx8, hown8, hz8, hB8, hS13⟩
                        case measure => show c2.length < R.size; omega
end Go.Proofs.YtffkakpbelknaaaGreatDoor
