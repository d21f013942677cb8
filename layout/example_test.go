package layout_test

import (
	"fmt"

	"boustrophedon/api"
	"boustrophedon/layout"
)

func ExampleOf() {
	laid, err := layout.Of([]byte("see (\u05e9\u05dc\u05d5\u05dd) 12"), api.Auto, 6)
	if err != nil {
		fmt.Println(api.Place(err))
		return
	}
	for i := range laid.Lines {
		line := &laid.Lines[i]
		scalar, err := line.Hit(1)
		fmt.Printf("%+q %d %v\n", line.Text(), scalar, err)
	}
	_, err = layout.Of(nil, api.Auto, 0)
	fmt.Println(layout.Refused(err))
	// Output:
	// "see " 1 <nil>
	// "(\u05dd\u05d5\u05dc\u05e9) " 4 <nil>
	// "12" 1 <nil>
	// width 0 true
}
